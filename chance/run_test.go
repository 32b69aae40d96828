package chance_test

import (
	"math"
	"math/rand"
	"slices"
	"strings"
	"testing"

	"gambrel/api"
	"gambrel/chance"
)

// wrongSteps are numbers of steps that are not allowed.
func wrongSteps() []int {
	return append([]int{-1, -2, -30, 31, 32, 60, 100, 256, 257, -256, -255}, integers...)
}

func TestRun(t *testing.T) {
	for _, c := range []struct {
		rules       []rule
		w           string
		n           int
		want, paths string
	}{
		{[]rule{letters('A', "BC")}, "F[A]", 0, "F[A]", "0 1 2 3"}, {[]rule{letters('A', "BC")}, "F[A]", 1, "F[BC]", "0 1 2/0 2/1 3"}, {[]rule{letters('A', "BC")}, "F[A]", 30, "F[BC]", "0 1 2/0 2/1 3"}, {[]rule{letters('A', "AB")}, "A", 3, "ABBB", "0/0/0/0 0/0/0/1 0/0/1 0/1"}, {[]rule{letters('A', "B"), letters('B', "A")}, "A[B]", 3, "B[A]", "0/0/0/0 1 2/0/0/0 3"}, {[]rule{letters('A', "A[A]")}, "A", 2, "A[A][A[A]]", "0/0/0 0/0/1 0/0/2 0/0/3 0/1 0/2/0 0/2/1 0/2/2 0/2/3 0/3"},
		{nil, "A[B(1)]", 30, "A[B(1)]", "0 1 2 3"}, {nil, "", 30, "", ""}, {[]rule{letters('A', "")}, "ABA", 1, "B", "1"}, {[]rule{to('A', 1, put('A', sum(1, 1)))}, "A(0)", 30, "A(30)", "0" + strings.Repeat("/0", 30)}, {[]rule{letters('A', strings.Repeat("F", 19)+"A")}, "A", 2, strings.Repeat("F", 38) + "A", "0/0 0/1 0/2 0/3 0/4 0/5 0/6 0/7 0/8 0/9 0/10 0/11 0/12 0/13 0/14 0/15 0/16 0/17 0/18 0/19/0 0/19/1 0/19/2 0/19/3 0/19/4 0/19/5 0/19/6 0/19/7 0/19/8 0/19/9 0/19/10 0/19/11 0/19/12 0/19/13 0/19/14 0/19/15 0/19/16 0/19/17 0/19/18 0/19/19"},
	} {
		for _, from := range seeds {
			if l, e := chance.Run(c.rules, from, read(c.w), c.n); !is(l, e, placed(read(c.want), c.paths)) {
				t.Error(c, from, show(l), e)
			}
		}
	}
}

// A choice in each of several steps, worked out outside of the program: B where the seed chooses the second rule for the path.
func TestRunOfKnownChoices(t *testing.T) {
	rules := []rule{letters('A', "AA"), letters('A', "B")}
	for _, c := range []struct {
		from        int64
		n           int
		want, paths string
	}{
		{0, 2, "BAA", "0/0/0 0/1/0 0/1/1"},
		{0, 3, "BAAAA", "0/0/0 0/1/0/0 0/1/0/1 0/1/1/0 0/1/1/1"},
		{0, 4, "BBBAAAA", "0/0/0 0/1/0/0/0 0/1/0/1/0 0/1/1/0/0 0/1/1/0/1 0/1/1/1/0 0/1/1/1/1"},
		{2, 1, "AA", "0/0 0/1"},
		{2, 4, "BAABAABAAB", "0/0/0/0 0/0/1/0/0 0/0/1/0/1 0/0/1/1/0 0/1/0/0/0 0/1/0/0/1 0/1/0/1/0 0/1/1/0/0 0/1/1/0/1 0/1/1/1/0"},
		{3, 1, "B", "0/0"},
		{5, 2, "AAAA", "0/0/0 0/0/1 0/1/0 0/1/1"},
		{5, 4, "BAABAAAABBB", "0/0/0/0/0 0/0/0/1/0 0/0/0/1/1 0/0/1/0/0 0/0/1/1/0 0/0/1/1/1 0/1/0/0/0 0/1/0/0/1 0/1/0/1/0 0/1/1/0/0 0/1/1/1/0"},
		{-1, 3, "BAABAA", "0/0/0/0 0/0/1/0 0/0/1/1 0/1/0/0 0/1/1/0 0/1/1/1"},
		{-1, 4, "BAAAABAAAA", "0/0/0/0 0/0/1/0/0 0/0/1/0/1 0/0/1/1/0 0/0/1/1/1 0/1/0/0 0/1/1/0/0 0/1/1/0/1 0/1/1/1/0 0/1/1/1/1"},
		{-5, 2, "B", "0/0"},
		{-9223372036854775808, 1, "AA", "0/0 0/1"},
		{-9223372036854775808, 2, "AAB", "0/0/0 0/0/1 0/1/0"},
		{-9223372036854775808, 3, "BAAB", "0/0/0/0 0/0/1/0 0/0/1/1 0/1/0"},
		{-9223372036854775808, 4, "BAABB", "0/0/0/0 0/0/1/0/0 0/0/1/0/1 0/0/1/1/0 0/1/0"},
		{9223372036854775806, 1, "AA", "0/0 0/1"},
		{9223372036854775806, 2, "AAB", "0/0/0 0/0/1 0/1/0"},
		{9223372036854775806, 3, "AAAAB", "0/0/0/0 0/0/0/1 0/0/1/0 0/0/1/1 0/1/0"},
		{9223372036854775806, 4, "AABAABB", "0/0/0/0/0 0/0/0/0/1 0/0/0/1/0 0/0/1/0/0 0/0/1/0/1 0/0/1/1/0 0/1/0"},
	} {
		if l, e := chance.Run(rules, c.from, plain("A"), c.n); !is(l, e, placed(read(c.want), c.paths)) {
			t.Error(c, show(l), e)
		}
	}
}

// A counter that goes up by 1 tells how many steps there were.
func TestRunOfNumbersOfSteps(t *testing.T) {
	rules := []rule{to('A', 1, put('A', sum(1, 1)))}
	for n := -40; n <= 100; n++ {
		l, e := chance.Run(rules, 1, []mod{with('B'), with('A', 0)}, n)
		if n < 0 || n > 30 {
			if !none(l, e, api.ErrArg) {
				t.Error(n, show(l), e)
			}
		} else if !is(l, e, []cell{at("0", with('B')), at("1"+strings.Repeat("/0", n), with('A', n))}) {
			t.Error(n, show(l), e)
		}
	}
	for _, n := range wrongSteps() {
		for _, w := range [][]mod{nil, plain("BA"), plain(strings.Repeat("A", 2000))} {
			if l, e := chance.Run(nil, 0, w, n); !none(l, e, api.ErrArg) {
				t.Error(n, show(l), e)
			}
		}
	}
}

// No step is tried where there is none.
func TestRunOfNoSteps(t *testing.T) {
	failing := []rule{to('A', 1, put('A', sum(1, 1))), letters('A', "AA")}
	for _, w := range [][]mod{nil, {}, {with('B'), with('A', top)}, plain(strings.Repeat("A", 2000)), read("A(1,2)[B(3)]+")} {
		for _, rules := range append(goods(), failing) {
			if l, e := chance.Run(rules, -5, w, 0); !is(l, e, begun(w)) {
				t.Error(brief(rules), show(l), e)
			}
		}
	}
}

// Where a step has an error, all numbers of steps from there on have it.
func TestRunOfLaterErrors(t *testing.T) {
	tenfold, double := to('A', 1, put('A', sum(0, 10))), letters('C', "CC")
	for _, c := range []struct {
		rules []rule
		w     string
		fine  int // how many steps have no error
		e     api.Errno
	}{
		{[]rule{tenfold}, "A(1)", 9, api.ErrRange}, {[]rule{tenfold}, "A(-1)", 9, api.ErrRange}, {[]rule{tenfold}, "A(2)", 8, api.ErrRange}, {[]rule{tenfold}, "A(1000000000)", 0, api.ErrRange}, {[]rule{tenfold}, "B(1000000000)", 30, api.OK}, {[]rule{double}, "C", 10, api.ErrMany}, {[]rule{double}, strings.Repeat("C", 1000), 1, api.ErrMany}, {[]rule{double}, strings.Repeat("C", 1001), 0, api.ErrMany}, {[]rule{double}, strings.Repeat("B", 2000), 30, api.OK},
		// The first step that has one, whichever it is.
		{[]rule{tenfold, double}, "A(1)C", 9, api.ErrRange}, {[]rule{tenfold, double}, "A(1)CCC", 9, api.ErrRange}, {[]rule{tenfold, double}, "A(1)CCCCC", 8, api.ErrMany}, {[]rule{tenfold, double}, "CCCCCA(1)", 8, api.ErrMany},
		// With both at once.
		{[]rule{tenfold, double}, "A(10)CCCCC", 8, api.ErrRange}, {[]rule{tenfold, double}, "CCCCCA(10)", 8, api.ErrRange},
		// At the last step of all.
		{[]rule{to('A', 1, put('A', sum(1, 1)))}, "A(999999970)", 30, api.OK}, {[]rule{to('A', 1, put('A', sum(1, 1)))}, "A(999999971)", 29, api.ErrRange}, {[]rule{letters('A', "AB")}, strings.Repeat("B", 1969) + "A", 30, api.OK}, {[]rule{letters('A', "AB")}, strings.Repeat("B", 1970) + "A", 29, api.ErrMany},
	} {
		w := read(c.w)
		for _, n := range []int{0, 1, c.fine - 1, c.fine, c.fine + 1, 30} {
			if n < 0 || n > 30 {
				continue
			}
			l, e := chance.Run(c.rules, 12, w, n)
			if n > c.fine && !none(l, e, c.e) || n <= c.fine && (e != api.OK || len(l) == 0) {
				t.Error(brief(c.rules), brief(c.w), n, show(l), e)
			}
		}
		// A number of steps that is not allowed comes before the error of a step.
		for _, n := range wrongSteps() {
			if l, e := chance.Run(c.rules, 12, w, n); !none(l, e, api.ErrArg) {
				t.Error(brief(c.rules), n, show(l), e)
			}
		}
	}
}

// Which error comes depends on what the seed chooses.
func TestRunOfErrorsThatAreChosen(t *testing.T) {
	rules := []rule{to('A', 1, put('A', sum(1, 1))), to('A', 1, put('A', sum(1, 0)))}
	counts := map[api.Errno]int{}
	for from := range int64(200) {
		for _, n := range []int{1, 2, 5} {
			w := []mod{with('A', top-2)}
			l, e := chance.Run(rules, from, w, n)
			if want, wantError := ran(rules, from, w, n); !agrees(l, e, want, wantError) {
				t.Error(from, n, show(l, want), e, wantError)
			}
			counts[e]++
		}
	}
	if counts[api.ErrRange] < 10 || counts[api.OK] < 100 {
		t.Error(counts)
	}
}

// The error of the rules comes first, then that of the word, then that of the number of steps.
func TestRunWithSeveralErrors(t *testing.T) {
	numbers := []int{-1, 0, 1, 30, 31, math.MinInt}
	check := func(rules []rule, w []mod, want api.Errno) {
		t.Helper()
		for _, n := range numbers {
			if l, e := chance.Run(rules, 4, w, n); !none(l, e, want) {
				t.Error(brief(rules), brief(w), n, show(l), e, want)
			}
		}
	}
	words := append(wrongWords(), wrongWord{nil, api.OK}, wrongWord{plain("B[A]A"), api.OK}, wrongWord{[]mod{with('A', top)}, api.OK})
	for _, c := range fewWrongs() {
		for _, d := range words {
			check(c.rules, d.w, c.e)
		}
	}
	failing := []rule{to('A', 1, put('A', sum(1, 1))), letters('A', "AA")}
	for _, d := range wrongWords() {
		for _, rules := range [][]rule{nil, bush(), failing} {
			check(rules, d.w, d.e)
		}
	}
	for k, r := range wrongRules() {
		if k%5 == 0 {
			check([]rule{r}, plain("B[A]A"), api.ErrBad)
		}
	}
	for _, r := range crowdedRules() {
		check([]rule{r}, plain("B[A]A"), api.ErrMany)
	}
}

func TestRunOfManyWords(t *testing.T) {
	r := rand.New(rand.NewSource(99))
	counts := map[api.Errno]int{}
	for k := range 1000 {
		rules, w, n := someRules(r), someWord(r, 1+r.Intn(12)), r.Intn(31)
		if k%4 == 0 {
			rules = livelyRules(r)
			n = r.Intn(7)
		}
		from := someSeed(r)
		l, e := chance.Run(rules, from, w, n)
		want, wantError := ran(rules, from, w, n)
		if !agrees(l, e, want, wantError) {
			t.Fatal(rules, from, n, brief(w), show(l, want), e, wantError)
		}
		counts[e]++
	}
	if counts[api.OK] < 500 || counts[api.ErrRange] < 50 || counts[api.ErrMany] < 20 {
		t.Error(counts)
	}
}

// As many steps as there may be, of words that stay as long as they may be, by as many rules, of which all fit but only the last shape changes anything.
func TestRunOfTheLargest(t *testing.T) {
	up := to('A', 4, put('A', sum(1, 1, 0, 0, 0), sum(0, 0, 1, 0, 0), sum(0, 0, 0, 1, 0), sum(0, 0, 0, -1, 1)))
	rules := slices.Repeat([]rule{weigh(api.MaxLot, when(up, sum(0, 0, 0, 0, 0), sum(0, 1, 0, 0, 0)))}, 40)
	l, e := chance.Run(rules, math.MinInt64, slices.Repeat([]mod{with('A', 0, 5, 1, 0)}, 2000), 30)
	var want []cell
	for _, c := range begun(plain(strings.Repeat("A", 2000))) {
		want = append(want, at(c.Path+strings.Repeat("/0", 30), with('A', 30, 5, 1, -30)))
	}
	if !is(l, e, want) {
		t.Error(show(l), e)
	}
	// The longest paths that a run can have.
	long := []rule{letters('A', strings.Repeat("F", 19)+"A")}
	l, e = chance.Run(long, 0, append(plain(strings.Repeat("F", 1429)), with('A')), 30)
	if e != api.OK || len(l) != 2000 || l[1999].Path != "1429"+strings.Repeat("/19", 30) || l[1998].Path != "1429"+strings.Repeat("/19", 29)+"/18" {
		t.Error(show(l), e)
	}
}
