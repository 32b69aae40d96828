package context_test

import (
	"math/rand"
	"slices"
	"strings"
	"testing"

	"gambrel/api"
	"gambrel/context"
)

// wrongSteps are numbers of steps that are not allowed.
func wrongSteps() []int {
	return append([]int{-1, -2, -30, 31, 32, 60, 100, 256, 257, -256, -255}, integers...)
}

func TestRun(t *testing.T) {
	for _, c := range []struct {
		rules  []rule
		ignore string
		w      string
		n      int
		want   string
	}{
		{signal(), "", "BAAA", 0, "BAAA"}, {signal(), "", "BAAA", 1, "ABAA"}, {signal(), "", "BAAA", 2, "AABA"}, {signal(), "", "BAAA", 3, "AAAB"}, {signal(), "", "BAAA", 4, "AAAA"}, {signal(), "", "BAAA", 30, "AAAA"}, {signal(), "", "B" + strings.Repeat("A", 30), 30, strings.Repeat("A", 30) + "B"},
		// Into branches and past them.
		{signal(), "", "BA[A[A]A]A", 2, "AA[B[A]A]B"}, {signal(), "", "BA[A[A]A]A", 3, "AA[A[B]B]A"}, {signal(), "+", "BA[+A[-A]A]+A", 3, "AA[+A[-A]B]+A"}, {signal(), "+-", "BA[+A[-A]A]+A", 3, "AA[+A[-B]B]+A"}, {signal(), "", "[BA]A", 5, "[AA]A"},
		// What grows asks for what has grown.
		{[]rule{beside('A', letters('A', "AA"), 0)}, "", "AA", 3, strings.Repeat("A", 9)}, {[]rule{beside(0, letters('A', "AB"), 'B'), letters('B', "")}, "", "AB", 1, "AB"}, {[]rule{beside('C', letters('A', "CA"), 0)}, "", "CA", 5, "CCCCCCA"}, {[]rule{letters('A', "A[B]"), beside('A', letters('B', "C"), 0)}, "", "A", 3, "A[B][C][C]"}, {[]rule{letters('A', "+A"), beside('B', letters('A', "C"), 0)}, "+", "BA", 2, "B++A"}, {[]rule{beside('B', letters('A', "C"), 0), letters('A', "+A"), letters('D', "B")}, "+", "DA", 3, "B+C"},
		{nil, "", "A[B(1)]", 30, "A[B(1)]"}, {nil, "+", "", 30, ""}, {[]rule{beside('B', to('A', 1, put('A', sum(1, 1))), 0)}, "", "BA(0)A(0)", 30, "BA(30)A(0)"},
	} {
		if w, e := context.Run(c.rules, c.ignore, read(c.w), c.n); !is(w, e, read(c.want)) {
			t.Error(c.rules, c.ignore, c.w, c.n, show(w), e)
		}
	}
}

// A counter that goes up by 1 tells how many steps there were.
func TestRunOfNumbersOfSteps(t *testing.T) {
	rules := []rule{beside('B', to('A', 1, put('A', sum(1, 1))), 0)}
	for n := -40; n <= 100; n++ {
		w, e := context.Run(rules, "+", []mod{with('B'), with('+'), with('A', 0)}, n)
		if n < 0 || n > 30 {
			if !none(w, e, api.ErrArg) {
				t.Error(n, show(w), e)
			}
		} else if !is(w, e, []mod{with('B'), with('+'), with('A', n)}) {
			t.Error(n, show(w), e)
		}
	}
	for _, n := range wrongSteps() {
		for _, w := range [][]mod{nil, plain("BA"), plain(strings.Repeat("A", 2000))} {
			if next, e := context.Run(nil, "", w, n); !none(next, e, api.ErrArg) {
				t.Error(n, show(next), e)
			}
		}
	}
}

// No step is tried where there is none.
func TestRunOfNoSteps(t *testing.T) {
	failing := []rule{beside('B', to('A', 1, put('A', sum(1, 1))), 0), letters('A', "AA")}
	for _, w := range [][]mod{nil, {}, {with('B'), with('A', top)}, plain(strings.Repeat("A", 2000)), read("A(1,2)[B(3)]+")} {
		for _, rules := range append(goods(), failing) {
			if same, e := context.Run(rules, "+", w, 0); !is(same, e, w) {
				t.Error(brief(rules), show(w, same), e)
			}
		}
	}
}

// Where a step has an error, all numbers of steps from there on have it.
func TestRunOfLaterErrors(t *testing.T) {
	tenfold := beside('B', to('A', 1, put('A', sum(0, 10))), 0)
	double := beside('C', letters('C', "CC"), 0)
	for _, c := range []struct {
		rules []rule
		w     string
		fine  int // how many steps have no error
		e     api.Errno
	}{
		{[]rule{tenfold}, "BA(1)", 9, api.ErrRange}, {[]rule{tenfold}, "BA(-1)", 9, api.ErrRange}, {[]rule{tenfold}, "BA(2)", 8, api.ErrRange}, {[]rule{tenfold}, "BA(1000000000)", 0, api.ErrRange}, {[]rule{tenfold}, "A(1000000000)", 30, api.OK}, {[]rule{double}, "CC", 10, api.ErrMany}, {[]rule{double}, strings.Repeat("C", 1000), 1, api.ErrMany}, {[]rule{double}, strings.Repeat("C", 1001), 0, api.ErrMany}, {[]rule{double}, strings.Repeat("CB", 1000), 30, api.OK},
		// The first step that has one, whichever it is.
		{[]rule{tenfold, double}, "BA(1)CC", 9, api.ErrRange}, {[]rule{tenfold, double}, "BA(1)CCCC", 9, api.ErrRange}, {[]rule{tenfold, double}, "BA(1)CCCCC", 8, api.ErrMany}, {[]rule{tenfold, double}, "CCCCCBA(1)", 8, api.ErrMany},
		// With both at once.
		{[]rule{tenfold, double}, "BA(10)CCCCC", 8, api.ErrRange}, {[]rule{tenfold, double}, "CCCCCBA(10)", 8, api.ErrRange},
		// A neighbour that wanders up to the module only in a later step.
		{append(signal(), to('A', 1), beside('B', to('D', 1, put('D', sum(1, 1))), 0)), "BAAAAD(1000000000)", 4, api.ErrRange}, {append(signal(), beside('B', letters('D', "DDD"), 0)), "BAAA" + strings.Repeat("D", 1995), 3, api.ErrMany},
		// At the last step of all.
		{[]rule{beside('B', to('A', 1, put('A', sum(1, 1))), 0)}, "BA(999999970)", 30, api.OK}, {[]rule{beside('B', to('A', 1, put('A', sum(1, 1))), 0)}, "BA(999999971)", 29, api.ErrRange}, {[]rule{beside('B', letters('A', "AB"), 0)}, strings.Repeat("B", 1969) + "A", 30, api.OK}, {[]rule{beside('B', letters('A', "AB"), 0)}, strings.Repeat("B", 1970) + "A", 29, api.ErrMany},
	} {
		w := read(c.w)
		for n := range 31 {
			next, e := context.Run(c.rules, "+", w, n)
			if n > c.fine && !none(next, e, c.e) || n <= c.fine && (e != api.OK || len(next) == 0) {
				t.Error(brief(c.rules), brief(c.w), n, show(next), e)
			}
		}
		// A number of steps that is not allowed comes before the error of a step.
		for _, n := range wrongSteps() {
			if next, e := context.Run(c.rules, "+", w, n); !none(next, e, api.ErrArg) {
				t.Error(brief(c.rules), n, show(next), e)
			}
		}
	}
}

func TestRunOfManyWords(t *testing.T) {
	r := rand.New(rand.NewSource(85))
	counts := map[api.Errno]int{}
	for k := range 2000 {
		rules, w, n := someRules(r), someWord(r, 1+r.Intn(12)), r.Intn(31)
		if k%4 == 0 {
			rules = livelyRules(r)
			n = r.Intn(7)
		}
		ignore := someIgnores[r.Intn(len(someIgnores))]
		next, e := context.Run(rules, ignore, w, n)
		want, wantError := ran(rules, ignore, w, n)
		if !agrees(next, e, want, wantError) {
			t.Fatal(rules, ignore, n, show(w, next, want), e, wantError)
		}
		counts[e]++
	}
	if counts[api.OK] < 1000 || counts[api.ErrRange] < 50 || counts[api.ErrMany] < 20 {
		t.Error(counts)
	}
}

// As many steps as there may be, of words that stay as long as they may be, by rules of which only the last one fits.
func TestRunOfTheLargest(t *testing.T) {
	rules := append(slices.Repeat([]rule{when(beside('A', to('A', 4, put('B')), 0), sum(-1, 0, 0, 0, 0))}, 39), beside('A', to('A', 4, put('A', sum(1, 1, 0, 0, 0), sum(0, 0, 1, 0, 0), sum(0, 0, 0, 1, 0), sum(0, 0, 0, -1, 1))), 0))
	w, e := context.Run(rules, names[1:21], slices.Repeat([]mod{with('A', 0, 5, 1, 0)}, 2000), 30)
	if !is(w, e, append([]mod{with('A', 0, 5, 1, 0)}, slices.Repeat([]mod{with('A', 30, 5, 1, -30)}, 1999)...)) {
		t.Error(show(w), e)
	}
	deep := plain(strings.Repeat("[A", 666) + strings.Repeat("]", 666))
	if w, e := context.Run([]rule{beside('A', letters('A', "A"), 0)}, "+", deep, 30); !is(w, e, deep) {
		t.Error(show(w), e)
	}
}
