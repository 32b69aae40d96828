package rewrite_test

import (
	"math"
	"math/rand"
	"slices"
	"strings"
	"testing"

	"gambrel/api"
	"gambrel/rewrite"
)

// wrongSteps are numbers of steps that are not allowed.
func wrongSteps() []int {
	return append([]int{-1, -2, -30, 31, 32, 60, 100, 256, 257, -256, -255, -1000000000}, integers...)
}

func TestRun(t *testing.T) {
	fibonacci := []rule{letters('A', "AB"), letters('B', "A")}
	for _, c := range []struct {
		rules []rule
		w     string
		n     int
		want  string
	}{
		{tree(), "A(2)", 0, "A(2)"}, {tree(), "A(2)", 1, "F(2)[+A(1)]"}, {tree(), "A(2)", 2, "F(2)[+F(1)[+A(0)]]"}, {tree(), "A(2)", 3, "F(2)[+F(1)[+F(0)]]"}, {tree(), "A(2)", 4, "F(2)[+F(1)[+F(0)]]"}, {tree(), "A(2)", 30, "F(2)[+F(1)[+F(0)]]"},
		{fibonacci, "A", 1, "AB"}, {fibonacci, "A", 2, "ABA"}, {fibonacci, "A", 3, "ABAAB"}, {fibonacci, "A", 4, "ABAABABA"}, {fibonacci, "[A]B", 2, "[ABA]AB"},
		{[]rule{letters('F', "F[+F]F")}, "F", 2, "F[+F]F[+F[+F]F]F[+F]F"}, {[]rule{letters('A', "")}, "BAB", 5, "BB"}, {[]rule{letters('A', "B"), letters('B', "C"), letters('C', "")}, "A", 2, "C"}, {[]rule{letters('A', "B"), letters('B', "C"), letters('C', "")}, "A", 3, ""}, {[]rule{letters('A', "B"), letters('B', "C"), letters('C', "")}, "A", 30, ""},
		{[]rule{to('A', 2, put('A', sum(0, 0, 1), sum(0, 1, 1)))}, "A(0,1)", 30, "A(832040,1346269)"}, {[]rule{letters('A', "B"), letters('B', "A")}, "A", 29, "B"}, {[]rule{letters('A', "B"), letters('B', "A")}, "A", 30, "A"}, {nil, "A[B(1)]", 30, "A[B(1)]"}, {nil, "", 30, ""},
	} {
		if w, e := rewrite.Run(c.rules, read(c.w), c.n); !is(w, e, read(c.want)) {
			t.Error(c.rules, c.w, c.n, show(w), e)
		}
	}
}

// A counter that goes up by 1 tells how many steps there were.
func TestRunOfNumbersOfSteps(t *testing.T) {
	rules := []rule{to('A', 1, put('A', sum(1, 1)))}
	for n := -40; n <= 100; n++ {
		w, e := rewrite.Run(rules, []mod{with('A', 0), with('A', 100)}, n)
		if n < 0 || n > 30 {
			if !none(w, e, api.ErrArg) {
				t.Error(n, show(w), e)
			}
		} else if !is(w, e, []mod{with('A', n), with('A', 100+n)}) {
			t.Error(n, show(w), e)
		}
	}
	for _, n := range wrongSteps() {
		if w, e := rewrite.Run(rules, []mod{with('A', 0)}, n); !none(w, e, api.ErrArg) {
			t.Error(n, show(w), e)
		}
		if w, e := rewrite.Run(nil, nil, n); !none(w, e, api.ErrArg) {
			t.Error(n, show(w), e)
		}
	}
}

// No step is tried where there is none.
func TestRunOfNoSteps(t *testing.T) {
	all := words()
	for _, rules := range append(goods(), []rule{to('A', 0, put('A', sum(1))), to('A', 1, put('A', sum(0, 1000000)))}, []rule{letters('A', "AA")}) {
		for _, w := range all {
			if same, e := rewrite.Run(rules, w, 0); !is(same, e, w) {
				t.Error(rules, show(w, same), e)
			}
		}
	}
	for _, w := range [][]mod{{with('A', top)}, plain(strings.Repeat("A", 2000))} {
		if same, e := rewrite.Run([]rule{to('A', 1, put('A', sum(1, 1))), letters('A', "AA")}, w, 0); !is(same, e, w) {
			t.Error(show(w, same), e)
		}
	}
}

// Where a step has an error, all numbers of steps from there on have it.
func TestRunOfLaterErrors(t *testing.T) {
	tenfold, double := to('A', 1, put('A', sum(0, 10))), letters('B', "BB")
	for _, c := range []struct {
		rules []rule
		w     string
		fine  int // how many steps have no error
		e     api.Errno
	}{
		{[]rule{tenfold}, "A(1)", 9, api.ErrRange}, {[]rule{tenfold}, "A(-1)", 9, api.ErrRange}, {[]rule{tenfold}, "A(10)", 8, api.ErrRange}, {[]rule{tenfold}, "A(2)", 8, api.ErrRange}, {[]rule{tenfold}, "A(1000000000)", 0, api.ErrRange}, {[]rule{double}, "B", 10, api.ErrMany}, {[]rule{double}, "BB", 9, api.ErrMany}, {[]rule{double}, strings.Repeat("B", 1000), 1, api.ErrMany}, {[]rule{double}, strings.Repeat("B", 1001), 0, api.ErrMany},
		// The first step that has one, whichever it is.
		{[]rule{tenfold, double}, "A(1)B", 9, api.ErrRange}, {[]rule{tenfold, double}, "BA(1)", 9, api.ErrRange}, {[]rule{tenfold, double}, "A(1)BB", 9, api.ErrRange}, {[]rule{tenfold, double}, "A(1)BBBB", 8, api.ErrMany}, {[]rule{tenfold, double}, "BBBBA(1)", 8, api.ErrMany}, {[]rule{tenfold, double}, "A(1)BBB", 9, api.ErrRange}, {[]rule{double, tenfold}, "A(10)BBB", 8, api.ErrRange},
		// With both at once.
		{[]rule{tenfold, double}, "A(10)BBBB", 8, api.ErrRange}, {[]rule{tenfold, double}, "BBBBA(10)", 8, api.ErrRange},
		// Later steps would make up for it.
		{[]rule{when(letters('B', "BB"), sum(0)), letters('A', "")}, "B" + strings.Repeat("A", 1500), 10, api.ErrMany}, {[]rule{letters('C', "DDD"), letters('D', "")}, strings.Repeat("C", 700), 0, api.ErrMany}, {[]rule{letters('C', "DDD"), letters('D', "")}, strings.Repeat("C", 666), 30, api.OK}, {[]rule{letters('C', "DDD"), letters('D', "")}, strings.Repeat("C", 667), 0, api.ErrMany}, {[]rule{to('A', 1, put('B', sum(1, 1))), to('B', 1, put('A', sum(-1, 1)))}, "A(1000000000)", 0, api.ErrRange}, {[]rule{to('A', 1, put('B', sum(1, 1))), to('B', 1, put('A', sum(-1, 1)))}, "A(999999999)", 30, api.OK}, {[]rule{to('B', 1, put('C', sum(0, 0))), to('A', 1, put('B', sum(0, 1000)))}, "A(1000000)", 30, api.OK}, {[]rule{to('B', 1, put('C', sum(0, 0))), to('A', 1, put('B', sum(0, 1000)))}, "A(1000001)", 0, api.ErrRange},
		// At the last step of all.
		{[]rule{to('A', 1, put('A', sum(1, 1)))}, "A(999999970)", 30, api.OK}, {[]rule{to('A', 1, put('A', sum(1, 1)))}, "A(999999971)", 29, api.ErrRange}, {[]rule{letters('A', "AB")}, strings.Repeat("B", 1969) + "A", 30, api.OK}, {[]rule{letters('A', "AB")}, strings.Repeat("B", 1970) + "A", 29, api.ErrMany},
	} {
		w := read(c.w)
		for n := range 31 {
			next, e := rewrite.Run(c.rules, w, n)
			if n > c.fine && !none(next, e, c.e) || n <= c.fine && (e != api.OK || len(next) == 0 && strings.Trim(c.w, "C") != "") {
				t.Error(c.rules, brief(c.w), n, show(next), e)
			}
			if want, wantError := ran(c.rules, w, n); !agrees(next, e, want, wantError) {
				t.Error(c.rules, brief(c.w), n, show(next), e)
			}
		}
		// A number of steps that is not allowed comes before the error of a step.
		for _, n := range wrongSteps() {
			if next, e := rewrite.Run(c.rules, w, n); !none(next, e, api.ErrArg) {
				t.Error(c.rules, n, show(next), e)
			}
		}
	}
}

func TestRunOfWrongWords(t *testing.T) {
	for _, c := range wrongWords() {
		for _, n := range []int{0, 1, 2, 30, -1, 31, math.MinInt, math.MaxInt} {
			for _, rules := range [][]rule{nil, tree(), {letters('A', "AA")}} {
				if w, e := rewrite.Run(rules, c.w, n); !none(w, e, c.e) {
					t.Error(n, show(c.w, w), e)
				}
			}
		}
	}
}

// The rules come first, then the word, then the number of steps, then the steps.
func TestRunReturnsErrorsInOrder(t *testing.T) {
	for _, c := range wrongs() {
		for _, n := range []int{0, 1, -1} {
			if w, e := rewrite.Run(c.rules, read("A[A(1)]"), n); !none(w, e, c.e) {
				t.Error(c.why, n, show(w), e)
			}
		}
	}
	for _, c := range fewWrongs() {
		for _, w := range [][]mod{nil, plain("A"), plain("["), plain("#"), plain(strings.Repeat("A", 2000)), plain(strings.Repeat("A", 2001)), {with('A', top)}} {
			for _, n := range append(wrongSteps(), 0, 1, 30) {
				if next, e := rewrite.Run(c.rules, w, n); !none(next, e, c.e) {
					t.Error(c.why, n, show(w, next), e)
				}
			}
		}
	}
	failing := []rule{to('A', 1, put('A', sum(1, 1))), letters('A', "AA")}
	for _, c := range []struct {
		w []mod
		n int
		e api.Errno
	}{
		{plain("["), 31, api.ErrOpen}, {plain("["), -1, api.ErrOpen}, {plain("#"), 31, api.ErrBad}, {plain("#"), 1, api.ErrBad}, {plain(strings.Repeat("A", 2001)), 31, api.ErrMany}, {plain(strings.Repeat("A", 2001)), 1, api.ErrMany}, {[]mod{with('A', top+1)}, 1, api.ErrBad}, {[]mod{with('A', top), with('[')}, 1, api.ErrOpen},
		{[]mod{with('A', top)}, 31, api.ErrArg}, {[]mod{with('A', top)}, -1, api.ErrArg}, {[]mod{with('A', top)}, 1, api.ErrRange}, {plain(strings.Repeat("A", 2000)), 31, api.ErrArg}, {plain(strings.Repeat("A", 2000)), -1, api.ErrArg}, {plain(strings.Repeat("A", 2000)), 1, api.ErrMany}, {append(plain(strings.Repeat("A", 1999)), with('A', top)), 1, api.ErrRange},
	} {
		if w, e := rewrite.Run(failing, c.w, c.n); !none(w, e, c.e) {
			t.Error(c.n, show(c.w, w), e)
		}
	}
}

func TestRunOfManyWords(t *testing.T) {
	r := rand.New(rand.NewSource(73))
	counts := map[api.Errno]int{}
	for k := range 3000 {
		rules, w, n := someRules(r), someWord(r, 1+r.Intn(12)), r.Intn(31)
		if k%3 == 0 {
			rules = livelyRules(r)
		}
		next, e := rewrite.Run(rules, w, n)
		want, wantError := ran(rules, w, n)
		if !agrees(next, e, want, wantError) {
			t.Fatal(rules, n, show(w, next, want), e, wantError)
		}
		counts[e]++
	}
	if counts[api.OK] < 1000 || counts[api.ErrRange] < 50 || counts[api.ErrMany] < 50 {
		t.Error(counts)
	}
}

// As many steps as there may be, of words that stay as long as they may be.
func TestRunOfTheLargest(t *testing.T) {
	rules := append(slices.Repeat([]rule{when(to('A', 4, put('B')), sum(-1, 0, 0, 0, 0))}, 39), to('A', 4, put('A', sum(1, 1, 0, 0, 0), sum(0, 0, 1, 0, 0), sum(0, 0, 0, 1, 0), sum(0, 0, 0, -1, 1))))
	w, e := rewrite.Run(rules, slices.Repeat([]mod{with('A', 0, 5, 1, 0)}, 2000), 30)
	if !is(w, e, slices.Repeat([]mod{with('A', 30, 5, 1, -30)}, 2000)) {
		t.Error(show(w), e)
	}
}
