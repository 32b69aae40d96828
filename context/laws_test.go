package context_test

import (
	"math/rand"
	"slices"
	"strings"
	"testing"

	"gambrel/api"
	"gambrel/context"
	"gambrel/rewrite"
	"gambrel/word"
)

// blind returns the rules without what they ask for.
func blind(rules []rule) []rule {
	list := slices.Clone(rules)
	for i := range list {
		list[i].Left, list[i].Right = 0, 0
	}
	return list
}

// Without Left and Right, steps are those of layer 7, whatever is ignored.
func TestStepsWithoutNeighbours(t *testing.T) {
	r := rand.New(rand.NewSource(86))
	counts := map[api.Errno]int{}
	compare := func(rules []rule, w []mod, n int) {
		t.Helper()
		ignore := someIgnores[r.Intn(len(someIgnores))]
		next, e := context.Run(rules, ignore, w, n)
		same, f := rewrite.Run(rules, w, n)
		once, g := context.Step(rules, ignore, w)
		sameOnce, h := rewrite.Step(rules, w)
		if !agrees(next, e, same, f) || !agrees(once, g, sameOnce, h) {
			t.Fatal(rules, ignore, n, show(w, next, same, once, sameOnce), e, f, g, h)
		}
		counts[e]++
	}
	for range 2000 {
		compare(blind(someRules(r)), someWord(r, 1+r.Intn(15)), r.Intn(33)-1)
	}
	for range 100 {
		compare(blind(livelyRules(r)), someWord(r, 500+r.Intn(1500)), r.Intn(5))
	}
	for _, rules := range [][]rule{nil, {}, {letters('A', "AB"), letters('B', "A")}, {letters('A', "A[+A]A")}, {letters('A', "")}, {to('A', 1, put('A', sum(0, 10)))}} {
		for _, w := range [][]mod{nil, plain("A"), read("A(1)[A]A(-7)+"), plain(strings.Repeat("A", 700))} {
			for n := -1; n <= 31; n++ {
				compare(rules, w, n)
			}
		}
	}
	if counts[api.OK] < 1000 || counts[api.ErrRange] < 50 || counts[api.ErrMany] < 20 || counts[api.ErrArg] < 20 {
		t.Error(counts)
	}
	// The same rules ask for something, and it matters.
	if w, e := context.Step(signal(), "", plain("AAB")); !is(w, e, plain("AAA")) {
		t.Error(show(w), e)
	}
	if w, e := rewrite.Step(blind(signal()), plain("AAB")); !is(w, e, plain("BBA")) {
		t.Error(show(w), e)
	}
}

// Find without Left and Right is that of layer 7.
func TestFindWithoutNeighbours(t *testing.T) {
	r := rand.New(rand.NewSource(87))
	for range 500 {
		rules, w := blind(someRules(r)), someWord(r, 1+r.Intn(15))
		for i, m := range w {
			k, e := context.Find(rules, "+", w, i)
			if want, f := rewrite.Find(rules, m); k != want || e != f {
				t.Error(rules, show(w), i, k, e, want, f)
			}
		}
	}
}

// back checks that a module that is not ignored is the left neighbour of its right one, and reports whether it has one.
func back(t *testing.T, w []mod, i int, ignore string) bool {
	t.Helper()
	if strings.IndexByte(ignore+"[]", w[i].Name) >= 0 {
		return false
	}
	right, e := context.Right(w, i, ignore)
	if e != api.OK || right < 0 {
		return false
	}
	if left, f := context.Left(w, right, ignore); left != i || f != api.OK {
		t.Error(show(w), ignore, i, right, left, f)
	}
	return true
}

func TestLeftOfRight(t *testing.T) {
	count := 0
	tell := func(has bool) {
		if has {
			count++
		}
	}
	for _, w := range shortWords("A+[]", 7) {
		for i := range w {
			tell(back(t, w, i, ""))
			tell(back(t, w, i, "+"))
		}
	}
	r := rand.New(rand.NewSource(88))
	for range 1000 {
		w := someWord(r, 1+r.Intn(60))
		ignore := someIgnores[r.Intn(len(someIgnores))]
		for i := range w {
			tell(back(t, w, i, ignore))
		}
	}
	if count < 10000 {
		t.Error(count)
	}
	// Of one that is ignored it need not be true, nor the other way about, out of a branch.
	if right, _ := context.Right(plain("A+B"), 1, "+"); right != 2 {
		t.Error(right)
	}
	if left, _ := context.Left(plain("A+B"), 2, "+"); left != 0 {
		t.Error(left)
	}
	if left, _ := context.Left(plain("A[B]C"), 2, ""); left != 0 {
		t.Error(left)
	}
	if right, _ := context.Right(plain("A[B]C"), 0, ""); right != 4 {
		t.Error(right)
	}
}

// unmoved checks that the modules of a word keep their neighbours when a branch is put in at a place.
func unmoved(t *testing.T, w, branch []mod, place int, ignore string) {
	t.Helper()
	longer := slices.Insert(slices.Clone(w), place, branch...)
	now := func(i int) int {
		if i >= place {
			return i + len(branch)
		}
		return i
	}
	for i, m := range w {
		if m.Name == '[' || m.Name == ']' {
			continue
		}
		left, _ := context.Left(w, i, ignore)
		right, _ := context.Right(w, i, ignore)
		left2, e := context.Left(longer, now(i), ignore)
		right2, f := context.Right(longer, now(i), ignore)
		if left2 != now(left) || right2 != now(right) || e != api.OK || f != api.OK {
			t.Error(show(w, longer), ignore, i, left, left2, right, right2, e, f)
		}
	}
}

func TestBranchesThatArePutIn(t *testing.T) {
	branches := [][]mod{plain("[]"), plain("[A]"), plain("[+]"), plain("[[]B]"), plain("[A[+C]B]")}
	for _, w := range shortWords("A+[]", 6) {
		for _, branch := range branches {
			for place := range len(w) + 1 {
				unmoved(t, w, branch, place, "")
				unmoved(t, w, branch, place, "+")
			}
		}
	}
	r := rand.New(rand.NewSource(89))
	for range 300 {
		w := someWord(r, 1+r.Intn(30))
		branch := slices.Concat(plain("["), someWord(r, r.Intn(8)), plain("]"))
		for place := range len(w) + 1 {
			unmoved(t, w, branch, place, someIgnores[r.Intn(len(someIgnores))])
		}
	}
	// What is no branch does change them.
	if i, _ := context.Left(plain("AAB"), 2, ""); i != 1 {
		t.Error(i)
	}
}

// In a step, a branch that is put in changes nothing outside of it either.
func TestStepsWithABranchThatIsPutIn(t *testing.T) {
	r := rand.New(rand.NewSource(90))
	changed := 0
	for range 500 {
		rules, w := someRules(r), someWord(r, 1+r.Intn(12))
		ignore := someIgnores[r.Intn(len(someIgnores))]
		next, e := context.Step(rules, ignore, w)
		if e != api.OK {
			continue
		}
		if !word.Same(w, next) {
			changed++
		}
		for place := range len(w) + 1 {
			// No rule is for X, and none asks for it.
			branch := plain("[X]")
			longer, e := context.Step(rules, ignore, slices.Insert(slices.Clone(w), place, branch...))
			at := slices.IndexFunc(longer, func(m mod) bool { return m.Name == 'X' })
			if e != api.OK || at < 1 || !identical(slices.Delete(slices.Clone(longer), at-1, at+2), next) {
				t.Error(rules, ignore, place, show(w, next, longer), e)
			}
		}
	}
	if changed < 100 {
		t.Error(changed)
	}
}

// The words of steps are valid, and steps after steps are as many steps together.
func TestStepsAfterSteps(t *testing.T) {
	r := rand.New(rand.NewSource(91))
	together := 0
	for range 600 {
		rules, w := someRules(r), someWord(r, 1+r.Intn(10))
		ignore := someIgnores[r.Intn(len(someIgnores))]
		a := r.Intn(31)
		b := r.Intn(31 - a)
		first, e := context.Run(rules, ignore, w, a)
		all, f := context.Run(rules, ignore, w, a+b)
		if e != api.OK {
			if !none(all, f, e) {
				t.Error(rules, a, b, show(w, all), e, f)
			}
			continue
		}
		second, g := context.Run(rules, ignore, first, b)
		if word.Check(first) != api.OK || !agrees(all, f, second, g) {
			t.Error(rules, ignore, a, b, show(w, first, all, second), f, g)
		}
		together++
	}
	if together < 300 {
		t.Error(together)
	}
}
