package chance_test

import (
	"math/rand"
	"slices"
	"strings"
	"testing"

	"gambrel/api"
	"gambrel/chance"
	"gambrel/word"
)

// holds checks that cells have no error, and a word.
func holds(t *testing.T, l []cell) {
	t.Helper()
	if e := chance.Cells(l); e != api.OK {
		t.Error(show(l), e)
	}
	if w, e := chance.Word(l); !word.Same(w, modulesOf(l)) || e != api.OK {
		t.Error(show(l), brief(w), e)
	}
}

// refused checks that cells have an error, and no word.
func refused(t *testing.T, l []cell, want api.Errno) {
	t.Helper()
	if e := chance.Cells(l); e != want {
		t.Error(show(l), e, want)
	}
	if w, e := chance.Word(l); len(w) > 0 || e != want {
		t.Error(show(l), brief(w), e, want)
	}
}

func TestCells(t *testing.T) {
	holds(t, nil)
	holds(t, []cell{})
	holds(t, []cell{at("", mod{})}[:0])
	holds(t, placed(read("F[A]"), "0 1 2 3"))
	holds(t, placed(read("F(1,2)[A(-1000000000,1000000000,0,7)]+"), "/ 0/1 12/345 9 ///"))
	// Paths may occur twice, and begin each other, in any order.
	holds(t, placed(read("AAA"), "0 0 0"))
	holds(t, placed(read("AA[A]"), "1/2 1 1/2/3 1 0"))
	for _, path := range goodPaths() {
		holds(t, []cell{at(path, with('A'))})
		holds(t, placed(read("A[B(1)]"), "0 "+path+" 1 "+path))
	}
	for _, n := range []int{1, 63, 64, 65, 1000, 1999, 2000} {
		holds(t, begun(plain(strings.Repeat("A", n))))
		holds(t, slices.Repeat([]cell{at("0/1", with('!', 1, 2, 3, 4))}, n))
	}
	holds(t, begun(plain(strings.Repeat("[", 1000)+strings.Repeat("]", 1000))))
	r := rand.New(rand.NewSource(93))
	for range 1000 {
		holds(t, someCells(r, 1+r.Intn(40)))
	}
}

func TestCellsOfWrongPaths(t *testing.T) {
	for _, path := range wrongPaths() {
		refused(t, []cell{at(path, with('A'))}, api.ErrBad)
		refused(t, []cell{at("0", with('A')), at("1", with('A')), at(path, with('A'))}, api.ErrBad)
		refused(t, []cell{at(path, with('['))}, api.ErrBad)
		refused(t, []cell{at("0", with(']')), at(path, with('A'))}, api.ErrBad)
		refused(t, []cell{at(path, with('#')), at("0", with(']'))}, api.ErrBad)
	}
	for n := range 210 {
		want := api.OK
		if n < 1 || n > 200 {
			want = api.ErrBad
		}
		for _, s := range []string{"7", "/", "3/"} {
			if e := chance.Cells([]cell{at(strings.Repeat(s, n)[:n], with('A'))}); e != want {
				t.Error(s, n, e)
			}
		}
	}
	// At all places of many cells.
	for _, k := range []int{0, 1, 63, 64, 1000, 1998, 1999} {
		l := begun(plain(strings.Repeat("A", 2000)))
		l[k].Path = "1a"
		refused(t, l, api.ErrBad)
	}
	// All bytes.
	for b := range 256 {
		want := api.ErrBad
		if strings.IndexByte("0123456789/", byte(b)) >= 0 {
			want = api.OK
		}
		if e := chance.Cells([]cell{at(string([]byte{byte(b)}), with('A'))}); e != want {
			t.Error(b, e)
		}
	}
}

func TestCellsOfWrongWords(t *testing.T) {
	for _, c := range wrongWords() {
		refused(t, begun(c.w), c.e)
		// One wrong path is worse than brackets that do not match, but not than too many cells.
		l := begun(c.w)
		l[len(l)-1].Path = ""
		want := api.ErrBad
		if c.e == api.ErrMany {
			want = api.ErrMany
		}
		refused(t, l, want)
	}
	for _, m := range wrongModules() {
		refused(t, []cell{at("0", m)}, api.ErrBad)
		refused(t, placed([]mod{with('A'), m, with('[')}, "0 1 2"), api.ErrBad)
		refused(t, []cell{at("x", m)}, api.ErrBad)
	}
	// A bracket alone is a module, but no word.
	refused(t, []cell{at("0", with('['))}, api.ErrOpen)
	refused(t, []cell{at("0", with(']'))}, api.ErrOpen)
}

func TestCellsOfTooMany(t *testing.T) {
	for _, n := range []int{2001, 2002, 4000, 65536, 100000} {
		refused(t, begun(plain(strings.Repeat("A", n))), api.ErrMany)
		refused(t, make([]cell, n), api.ErrMany)
		refused(t, slices.Repeat([]cell{at("#", with(']'))}, n), api.ErrMany)
		refused(t, slices.Repeat([]cell{at("0", with('['))}, n), api.ErrMany)
	}
}

func TestBegin(t *testing.T) {
	for _, c := range []struct{ w, paths string }{
		{"", ""}, {"A", "0"}, {"F[A]", "0 1 2 3"}, {"A(1,-2)[B(1000000000)+]!", "0 1 2 3 4 5"}, {"[]", "0 1"}, {"AAAAAAAAAAAA", "0 1 2 3 4 5 6 7 8 9 10 11"},
	} {
		l, e := chance.Begin(read(c.w))
		if !is(l, e, placed(read(c.w), c.paths)) {
			t.Error(c, show(l), e)
		}
	}
	for _, w := range [][]mod{nil, {}, plain("#")[:0]} {
		if l, e := chance.Begin(w); !is(l, e, nil) {
			t.Error(show(l), e)
		}
	}
	// Indices of one, two, three and four digits.
	for _, n := range []int{9, 10, 11, 99, 100, 101, 102, 999, 1000, 1001, 1999, 2000} {
		w := plain(strings.Repeat("A", n))
		l, e := chance.Begin(w)
		if !is(l, e, begun(w)) {
			t.Error(n, show(l), e)
		}
		holds(t, l)
	}
	l, _ := chance.Begin(plain(strings.Repeat("A", 2000)))
	for i, path := range map[int]string{0: "0", 7: "7", 10: "10", 42: "42", 100: "100", 999: "999", 1000: "1000", 1234: "1234", 1999: "1999"} {
		if len(l) != 2000 || l[i].Path != path {
			t.Error(i, show(l))
		}
	}
	for _, c := range wrongWords() {
		if l, e := chance.Begin(c.w); !none(l, e, c.e) {
			t.Error(brief(c.w), show(l), e, c.e)
		}
	}
}

// The word of the cells that a word begins with is that word.
func TestWordOfBegin(t *testing.T) {
	r := rand.New(rand.NewSource(94))
	for range 1000 {
		w := someWord(r, r.Intn(100))
		l, e := chance.Begin(w)
		if !is(l, e, begun(w)) {
			t.Fatal(show(l), e)
		}
		if v, e := chance.Word(l); e != api.OK || !word.Same(v, w) {
			t.Fatal(brief(w), brief(v), e)
		}
	}
}

// Cells with one thing put to another, next to the definition.
func TestCellsOfManyLists(t *testing.T) {
	r := rand.New(rand.NewSource(95))
	paths, modules := wrongPaths(), append(wrongModules(), with('['), with(']'))
	counts := map[api.Errno]int{}
	for range 5000 {
		l := someCells(r, 1+r.Intn(10))
		for range r.Intn(3) {
			if k := r.Intn(len(l)); r.Intn(3) > 0 {
				l[k].Module = modules[r.Intn(len(modules))]
				if r.Intn(2) == 0 {
					l[k].Module = with("[]"[r.Intn(2)])
				}
			} else {
				l[k].Path = paths[r.Intn(len(paths))]
			}
		}
		want := checked(l)
		if want == api.OK {
			holds(t, l)
		} else {
			refused(t, l, want)
		}
		counts[want]++
	}
	if counts[api.OK] < 500 || counts[api.ErrBad] < 500 || counts[api.ErrOpen] < 500 {
		t.Error(counts)
	}
}
