package context_test

import (
	"math/rand"
	"slices"
	"strings"
	"testing"

	"gambrel/api"
	"gambrel/context"
)

func TestStep(t *testing.T) {
	back := []rule{beside(0, letters('A', "B"), 'B'), letters('B', "A")}
	for _, c := range []struct {
		rules           []rule
		ignore, w, want string
	}{
		// The chapter's example, and the same with branches, with what is ignored, and to the left.
		{signal(), "", "BAAA", "ABAA"}, {signal(), "", "ABAA", "AABA"}, {signal(), "", "AABA", "AAAB"}, {signal(), "", "AAAB", "AAAA"}, {signal(), "", "AAAA", "AAAA"}, {signal(), "", "B[A]A", "A[B]B"}, {signal(), "", "B[AA][A]A", "A[BA][B]B"}, {signal(), "", "A[BA]A", "A[AB]A"}, {signal(), "+", "B+A", "A+B"}, {signal(), "", "B+A", "A+A"}, {signal(), "+", "B[+A]+A", "A[+B]+B"}, {back, "", "AAAB", "AABA"}, {back, "", "A[AB]AB", "A[BA]BA"}, {back, "", "[A]B", "[A]A"}, {back, "", "A[A]B", "B[A]A"},
		// A neighbour counts as it was, also where the same step replaces it, takes it away or puts it in.
		{[]rule{beside('B', letters('A', "C"), 0), letters('B', "D")}, "", "BA", "DC"}, {[]rule{beside('B', letters('A', "C"), 0), letters('B', "")}, "", "BA", "C"}, {[]rule{beside('D', letters('A', "C"), 0), letters('B', "D")}, "", "BA", "DA"}, {[]rule{beside('B', letters('A', "B"), 0)}, "", "BAA", "BBA"}, {[]rule{beside(0, letters('A', "B"), 'B')}, "", "AAB", "ABB"}, {[]rule{beside('A', letters('B', "A"), 'A'), beside('B', letters('A', "B"), 'B')}, "", "ABABA", "AABAA"}, {[]rule{letters('D', ""), beside('B', letters('A', "C"), 0)}, "", "BDA", "BA"}, {[]rule{letters('D', "B"), beside('B', letters('A', "C"), 0)}, "", "DA", "BA"}, {[]rule{letters('B', "[B]"), beside('B', letters('A', "C"), 0)}, "", "BA", "[B]C"},
		// That asks for both.
		{[]rule{beside('A', letters('A', "B"), 'A')}, "", "AAAA", "ABBA"}, {[]rule{beside('A', letters('A', "B"), 'A')}, "", "A[A]AA", "A[A]BA"}, {[]rule{beside('A', letters('A', "B"), 'A')}, "", "A[AA]A", "A[BA]A"}, {[]rule{beside('A', letters('A', "B"), 'C')}, "+", "A+A[+A]+C", "A+B[+A]+C"},
		// What is ignored is rewritten, too.
		{[]rule{letters('+', "-")}, "+", "A+A", "A-A"}, {[]rule{beside('A', letters('+', "-"), 'B')}, "+", "A++B+", "A--B+"}, {[]rule{beside('A', letters('+', "-"), 'B')}, "", "A++B", "A++B"}, {[]rule{beside('+', letters('A', "B"), 0)}, "+", "+A", "+A"}, {[]rule{beside('+', letters('A', "B"), 0)}, "", "+A", "+B"},
		// All successors, of whatever length.
		{[]rule{beside('B', letters('A', ""), 0)}, "", "BABA", "BB"}, {[]rule{beside('B', letters('A', "[A]A"), 0)}, "", "BA[A]A", "B[A]A[A]A"}, {[]rule{beside('B', letters('A', "CCC"), 0), beside('C', letters('A', "B"), 0)}, "", "BACAA", "BCCCCBA"}, {[]rule{letters('A', "AB")}, "", "A[A]", "AB[AB]"}, {nil, "+", "A+[B(1,2)]", "A+[B(1,2)]"},
		// Brackets are their own successors.
		{signal(), "", "[][[]]", "[][[]]"}, {signal(), "", "B[[]A[]]", "A[[]B[]]"}, {[]rule{beside('B', letters('A', "[]"), 0)}, "", "B[A]", "B[[]]"},
		// The first rule that fits, and the values of its Args.
		{[]rule{beside('B', letters('A', "C"), 0), letters('A', "D")}, "", "ABAA", "DBCD"}, {[]rule{letters('A', "D"), beside('B', letters('A', "C"), 0)}, "", "ABA", "DBD"}, {[]rule{when(beside('B', letters('A', "C"), 0), sum(-1)), letters('A', "D")}, "", "BA", "BD"},
		{[]rule{beside('B', to('A', 1, put('A', sum(1, 1), sum(7, 0)), put('['), put('C', sum(0, -1)), put(']')), 0)}, "", "B(5)A(3)A(4)", "B(5)A(4,7)[C(-3)]A(4)"}, {[]rule{beside('B', to('A', 2, put('A', sum(0, 0, 1), sum(0, 1, 0))), 0)}, "", "BA(1,2)BA(3,4)A(5,6)", "BA(2,1)BA(4,3)A(5,6)"}, {[]rule{when(beside('B', to('A', 1, put('B')), 0), sum(-2, 1)), to('A', 1, put('C', sum(0, 1)))}, "", "BA(2)BA(1)A(2)", "BBBC(1)C(2)"},
	} {
		if w, e := context.Step(c.rules, c.ignore, read(c.w)); !is(w, e, read(c.want)) {
			t.Error(c.rules, c.ignore, c.w, show(w), e)
		}
		if w, e := context.Run(c.rules, c.ignore, read(c.w), 1); !is(w, e, read(c.want)) {
			t.Error(c.rules, c.ignore, c.w, show(w), e)
		}
	}
}

func TestStepOfTheEmptyWord(t *testing.T) {
	for _, rules := range goods() {
		for _, w := range [][]mod{nil, {}, make([]mod, 0, 10), plain("#[")[:0]} {
			if next, e := context.Step(rules, "+", w); !is(next, e, nil) {
				t.Error(brief(rules), show(next), e)
			}
		}
	}
}

// Values of Args at the limits, in all places of an Out.
func TestStepOfValues(t *testing.T) {
	for _, c := range []struct {
		f    form
		x, v int
		e    api.Errno
	}{
		{sum(0, 1), top, top, api.OK}, {sum(0, 1), -top, -top, api.OK}, {sum(1, 1), top - 1, top, api.OK}, {sum(-1, 1), 1 - top, -top, api.OK}, {sum(0, 1000000), 1000, top, api.OK}, {sum(0, 1000000), -1000, -top, api.OK}, {sum(0, -1), top, -top, api.OK},
		{sum(1, 1), top, 0, api.ErrRange}, {sum(-1, 1), -top, 0, api.ErrRange}, {sum(1, 1000000), 1000, 0, api.ErrRange}, {sum(-1, 1000000), -1000, 0, api.ErrRange}, {sum(0, 2), top, 0, api.ErrRange}, {sum(0, -1000000), top, 0, api.ErrRange}, {sum(0, 1<<16), 1 << 16, 0, api.ErrRange},
	} {
		fine, zero := sum(0, 0), with('F', 0)
		for _, p := range []struct {
			out  []shape
			want []mod
		}{
			{[]shape{put('F', c.f)}, []mod{with('F', c.v)}},
			{[]shape{put('F', fine), put('F', fine, fine, fine, c.f)}, []mod{zero, with('F', 0, 0, 0, c.v)}},
			{[]shape{put('['), put('F', fine, c.f, fine), put(']'), put('F', fine)}, []mod{with('['), with('F', 0, c.v, 0), with(']'), zero}},
			{append(slices.Repeat([]shape{put('F', fine)}, 19), put('F', c.f)), append(slices.Repeat([]mod{zero}, 19), with('F', c.v))},
		} {
			rules := []rule{beside('B', to('A', 1, p.out...), 0), to('A', 1)}
			for _, pair := range [][2]string{{"B", ""}, {"BB[", "]"}, {strings.Repeat("B", 1900), ""}, {"B", strings.Repeat("[]", 500)}} {
				before, behind := plain(pair[0]), plain(pair[1])
				want := slices.Concat(before, p.want, behind)
				if c.e != api.OK {
					want = nil
				}
				if w, e := context.Step(rules, "", slices.Concat(before, []mod{with('A', c.x)}, behind)); !agrees(w, e, want, c.e) {
					t.Error(c, p.out, show(w), e)
				}
			}
			// Where the neighbour is not there, the rule's values do not matter.
			if w, e := context.Step(rules, "", []mod{with('C'), with('A', c.x)}); !is(w, e, plain("C")) {
				t.Error(c, p.out, show(w), e)
			}
		}
	}
}

func TestStepToMaxWord(t *testing.T) {
	twenty := []rule{beside('B', letters('A', strings.Repeat("F", 20)), 0)}
	double := []rule{beside(0, letters('A', "AA"), 'A')}
	for _, c := range []struct {
		rules   []rule
		w, want string // "": too many
	}{
		{twenty, strings.Repeat("BA", 95) + "CCCCC", strings.Repeat("B"+strings.Repeat("F", 20), 95) + "CCCCC"}, {twenty, strings.Repeat("BA", 95) + "CCCCCC", ""}, {twenty, "CCCCCC" + strings.Repeat("BA", 95), ""}, {twenty, strings.Repeat("BA", 96), ""}, {twenty, strings.Repeat("CA", 96), strings.Repeat("CA", 96)}, {twenty, strings.Repeat("BA", 1000), ""},
		{double, strings.Repeat("A", 1000), strings.Repeat("A", 1999)}, {double, strings.Repeat("A", 1000) + "B", strings.Repeat("A", 1999) + "B"}, {double, strings.Repeat("A", 1000) + "BB", ""}, {double, strings.Repeat("A", 1001), ""}, {double, strings.Repeat("AB", 1000), strings.Repeat("AB", 1000)},
		{[]rule{letters('A', "F")}, strings.Repeat("A", 2000), strings.Repeat("F", 2000)}, {nil, strings.Repeat("[", 1000) + strings.Repeat("]", 1000), strings.Repeat("[", 1000) + strings.Repeat("]", 1000)}, {[]rule{beside('A', letters('A', "[]"), 0)}, strings.Repeat("A", 1000), "A" + strings.Repeat("[]", 999)}, {[]rule{beside('A', letters('A', "[]"), 0)}, strings.Repeat("A", 1000) + "B", "A" + strings.Repeat("[]", 999) + "B"}, {[]rule{beside('A', letters('A', "[]"), 0)}, "B" + strings.Repeat("A", 1000) + "B", ""},
		// What becomes more and what becomes less make up for each other, in whichever order.
		{[]rule{beside('A', letters('B', "FF"), 0), letters('A', "")}, strings.Repeat("AB", 1000), strings.Repeat("F", 2000)}, {[]rule{beside(0, letters('B', "FFF"), 'A'), beside('B', letters('A', ""), 0)}, strings.Repeat("BA", 666), strings.Repeat("F", 1998)}, {[]rule{beside(0, letters('B', "FFF"), 'A'), beside('B', letters('A', ""), 0)}, strings.Repeat("BA", 667), ""},
	} {
		w, e := context.Step(c.rules, "", plain(c.w))
		if c.want == "" && !none(w, e, api.ErrMany) || c.want != "" && !is(w, e, plain(c.want)) {
			t.Error(brief(c.rules), brief(c.w), show(w), e)
		}
	}
}

// A value out of range comes before too many modules, in whichever order they stand.
func TestStepWithBothErrors(t *testing.T) {
	rules := []rule{beside('A', letters('A', strings.Repeat("F", 20)), 0), to('B', 1, put('B', sum(1, 1)))}
	for _, n := range []int{150, 1000, 1999} {
		many := plain(strings.Repeat("A", n))
		for _, at := range []int{0, 1, n / 2, n - 1, n} {
			if w, e := context.Step(rules, "", slices.Insert(slices.Clone(many), at, with('B', top))); !none(w, e, api.ErrRange) {
				t.Error(n, at, show(w), e)
			}
		}
		if w, e := context.Step(rules, "", append(slices.Clone(many), with('B', top-1))); !none(w, e, api.ErrMany) {
			t.Error(n, show(w), e)
		}
	}
	// Within what one module becomes.
	long := []rule{beside('F', to('B', 1, append(letters('A', strings.Repeat("F", 19)).Out, put('B', sum(1, 1)))...), 0)}
	for _, n := range []int{1981, 1999} {
		if w, e := context.Step(long, "", append(plain(strings.Repeat("F", n)), with('B', top))); !none(w, e, api.ErrRange) {
			t.Error(n, show(w), e)
		}
		if w, e := context.Step(long, "", append(plain(strings.Repeat("F", n)), with('B', top-1))); !none(w, e, api.ErrMany) {
			t.Error(n, show(w), e)
		}
	}
}

// refusedSteps checks that Step and Run have an error, whatever the number of steps is.
func refusedSteps(t *testing.T, rules []rule, ignore string, w []mod, want api.Errno) {
	t.Helper()
	if next, e := context.Step(rules, ignore, w); !none(next, e, want) {
		t.Error(brief(rules), ignore, show(w, next), e, want)
	}
	for _, n := range []int{-1, 0, 1, 30, 31} {
		if next, e := context.Run(rules, ignore, w, n); !none(next, e, want) {
			t.Error(brief(rules), ignore, n, show(w, next), e, want)
		}
	}
}

// The error of the rules and what is ignored comes first, then that of the word, and only then all others.
func TestStepWithSeveralErrors(t *testing.T) {
	words := append(wrongWords(), wrongWord{nil, api.OK}, wrongWord{plain("B[A]A"), api.OK}, wrongWord{[]mod{with('A', top)}, api.OK})
	for _, c := range fewWrongs() {
		for _, d := range words {
			refusedSteps(t, c.rules, c.ignore, d.w, c.e)
		}
	}
	failing := []rule{to('A', 1, put('A', sum(1, 1))), letters('A', "AA")}
	for _, d := range wrongWords() {
		for _, rules := range [][]rule{nil, signal(), failing} {
			refusedSteps(t, rules, "+", d.w, d.e)
		}
	}
	for _, r := range wrongRules() {
		if w, e := context.Step([]rule{r}, "", plain("B[A]A")); !none(w, e, api.ErrBad) {
			t.Error(brief(r), show(w), e)
		}
	}
	for _, r := range crowdedRules() {
		if w, e := context.Step([]rule{r}, "", plain("B[A]A")); !none(w, e, api.ErrMany) {
			t.Error(brief(r), show(w), e)
		}
	}
	for _, ignore := range wrongIgnores() {
		if w, e := context.Step(signal(), ignore, plain("B[A]A")); !none(w, e, api.ErrBad) {
			t.Errorf("%.50q %s %v", ignore, show(w), e)
		}
	}
}

func TestStepOfManyWords(t *testing.T) {
	r := rand.New(rand.NewSource(84))
	counts := map[api.Errno]int{}
	compare := func(rules []rule, w []mod) {
		t.Helper()
		ignore := someIgnores[r.Intn(len(someIgnores))]
		next, e := context.Step(rules, ignore, w)
		want, wantError := stepped(rules, ignore, w)
		if !agrees(next, e, want, wantError) {
			t.Fatal(rules, ignore, show(w, next, want), e, wantError)
		}
		counts[e]++
	}
	for range 4000 {
		compare(someRules(r), someWord(r, 1+r.Intn(30)))
	}
	for range 40 {
		compare(livelyRules(r), someWord(r, 600+r.Intn(1000)))
	}
	if counts[api.OK] < 1000 || counts[api.ErrRange] < 50 || counts[api.ErrMany] < 5 {
		t.Error(counts)
	}
}

// All short words, by rules that ask for one neighbour each.
func TestStepOfShortWords(t *testing.T) {
	ask := []rule{beside('A', letters('A', "B"), 0), beside(0, letters('A', "C"), 'A'), letters('A', "D"), beside('A', letters('+', "-"), 'A')}
	for _, w := range shortWords("A+[]", 7) {
		for _, ignore := range []string{"", "+"} {
			next, e := context.Step(ask, ignore, w)
			if want, _ := stepped(ask, ignore, w); !is(next, e, want) {
				t.Error(ignore, show(w, next, want), e)
			}
		}
	}
}
