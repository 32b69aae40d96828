package label_test

import (
	"slices"
	"strings"
	"testing"
	"unsafe"

	"gambrel/api"
	"gambrel/label"
)

func TestParentAndLastStepOfAJoinedPath(t *testing.T) {
	for _, p := range paths() {
		for _, s := range goodSteps() {
			joined, e := label.Join(p, s.text)
			if e == api.ErrMany && strings.Count(p, "/") == api.MaxDepth-1 {
				continue
			}
			parent, f := label.Parent(joined)
			name, index, g := label.Last(joined)
			if e != api.OK || f != api.OK || g != api.OK || parent != p || name != s.name || index != s.index {
				t.Errorf("%q %q: %q %v, %q %v, %q %d %v", p, s.text, joined, e, parent, f, name, index, g)
			}
		}
	}
}

func TestStepsJoinedAreThePath(t *testing.T) {
	for _, p := range paths() {
		steps, e := label.Steps(p)
		joined := ""
		for _, step := range steps {
			next, f := label.Join(joined, step)
			if f != api.OK {
				t.Errorf("%q %q %q %v", p, joined, step, f)
			}
			joined = next
		}
		if joined != p || e != api.OK {
			t.Errorf("%q %q %v", p, joined, e)
		}
	}
}

func TestBothPathsAreUnderTheirCommonPath(t *testing.T) {
	is := func(p, q string) bool {
		under, e := label.Under(p, q)
		return under && e == api.OK
	}
	list := paths()
	for _, p := range list {
		for _, q := range list {
			common, e := label.Common(p, q)
			if e != api.OK || !is(p, common) || !is(q, common) {
				t.Errorf("%q %q %q %v", p, q, common, e)
			}
			for _, r := range above(p) {
				if is(p, r) && is(q, r) && !is(common, r) {
					t.Errorf("%q %q %q %q", p, q, common, r)
				}
			}
		}
	}
}

func TestComparingIsATotalOrder(t *testing.T) {
	order := func(p, q string) int {
		n, e := label.Compare(p, q)
		if e != api.OK {
			t.Errorf("%q %q %v", p, q, e)
		}
		return n
	}
	list := paths()
	slices.SortStableFunc(list, order)
	list = slices.Compact(list)
	for i, p := range list {
		for j, q := range list {
			want := 0
			if i < j {
				want = -1
			} else if i > j {
				want = 1
			}
			if n := order(p, q); n != want {
				t.Errorf("%q %q %d", p, q, n)
			}
		}
	}
}

// What is under a path comes after it, and before all that comes after the path and is not under it.
func TestWhatIsUnderAPathFollowsIt(t *testing.T) {
	list := append(tree(3), paths()...)
	slices.SortFunc(list, func(p, q string) int {
		n, _ := label.Compare(p, q)
		return n
	})
	list = slices.Compact(list)
	for i, p := range list {
		inside := true
		for j, q := range list {
			under, e := label.Under(q, p)
			if e != api.OK || j < i && under || j == i && !under {
				t.Errorf("%q %q %v %v", p, q, under, e)
			}
			if j > i {
				if under && !inside {
					t.Errorf("%q %q comes too late", p, q)
				}
				inside = under
			}
		}
	}
}

func TestOrderOfTheTree(t *testing.T) {
	var want []string
	var visit func(p string, depth int)
	visit = func(p string, depth int) {
		want = append(want, p)
		for _, step := range someSteps() {
			if depth > 0 {
				visit(strings.TrimPrefix(p+"/"+step, "/"), depth-1)
			}
		}
	}
	visit("", 3)
	list := tree(3)
	slices.Reverse(list)
	slices.SortFunc(list, func(p, q string) int {
		n, _ := label.Compare(p, q)
		return n
	})
	if !slices.Equal(list, want) {
		t.Errorf("%q", list)
	}
}

// lies reports whether the bytes of a and of b have memory in common.
func lies(a, b string) bool {
	if a == "" || b == "" {
		return false
	}
	p, q := uintptr(unsafe.Pointer(unsafe.StringData(a))), uintptr(unsafe.Pointer(unsafe.StringData(b)))
	return p < q+uintptr(len(b)) && q < p+uintptr(len(a))
}

func TestResultsShareNoMemory(t *testing.T) {
	p, q := strings.Clone("tower/floor[3]/window"), strings.Clone("tower/floor[3]/door[1]")
	root, step := "", strings.Clone("tower[2]")
	results, _ := label.Steps(p)
	again, _ := label.Steps(p)
	for _, call := range []func(a, b string) (string, api.Errno){label.Join, label.Common} {
		for _, pair := range [][2]string{{p, q}, {p, p}, {p, step}, {root, step}, {step, root}, {q, p}} {
			result, _ := call(pair[0], pair[1])
			results = append(results, result)
		}
	}
	for _, s := range []string{p, q, step} {
		parent, _ := label.Parent(s)
		name, _, _ := label.Last(s)
		results = append(results, parent, name)
	}
	results = append(results, again...)
	for i, a := range results {
		for _, b := range append(slices.Clone(results[:i]), p, q, step) {
			if lies(a, b) {
				t.Errorf("%q is a part of %q", a, b)
			}
		}
	}
}

func TestStepsAreNotKept(t *testing.T) {
	first, _ := label.Steps("a/b[1]/c")
	whole := first[:cap(first)]
	for i := range whole {
		whole[i] = "changed"
	}
	second, e := label.Steps("a/b[1]/c")
	if !slices.Equal(second, []string{"a", "b[1]", "c"}) || e != api.OK {
		t.Errorf("%q %v", second, e)
	}
}
