package context_test

import (
	"math/rand"
	"strings"
	"testing"

	"gambrel/api"
	"gambrel/context"
)

func TestFind(t *testing.T) {
	a := letters('A', "F")
	left, right, both := beside('B', a, 0), beside(0, a, 'C'), beside('B', a, 'C')
	fails, holds := sum(-1), sum(0)
	for _, c := range []struct {
		rules  []rule
		ignore string
		w      string
		i      int
		want   int
	}{
		// No rule, a rule that fits, and a rule that does not.
		{nil, "", "A", 0, -1}, {[]rule{a}, "", "A", 0, 0}, {[]rule{a}, "", "B", 0, -1}, {[]rule{a}, "", "A(1)", 0, -1}, {[]rule{a}, "", "BA", 1, 0}, {[]rule{a}, "", "BA", 0, -1}, {[]rule{to('A', 2)}, "", "A(1,2)", 0, 0}, {[]rule{to('A', 2)}, "", "A(1)", 0, -1}, {[]rule{to('a', 0)}, "", "A", 0, -1},
		// That asks for a neighbour at the left.
		{[]rule{left}, "", "BA", 1, 0}, {[]rule{left}, "", "CA", 1, -1}, {[]rule{left}, "", "A", 0, -1}, {[]rule{left}, "", "AB", 0, -1}, {[]rule{left}, "", "BA", 0, -1}, {[]rule{left}, "", "BCA", 2, -1}, {[]rule{left}, "", "bA", 1, -1}, {[]rule{left}, "", "B(1,2)A", 1, 0}, {[]rule{left}, "", "BA(1)", 1, -1}, {[]rule{left}, "", "B[A]", 2, 0}, {[]rule{left}, "", "B[C]A", 4, 0}, {[]rule{left}, "", "C[B]A", 4, -1}, {[]rule{left}, "", "[B]A", 3, -1}, {[]rule{left}, "+", "B+A", 2, 0}, {[]rule{left}, "", "B+A", 2, -1}, {[]rule{left}, "B", "BA", 1, -1}, {[]rule{left}, "A", "BA", 1, 0}, {[]rule{left}, "A", "BAA", 2, 0}, {[]rule{left}, "", "BAA", 2, -1},
		// At the right.
		{[]rule{right}, "", "AC", 0, 0}, {[]rule{right}, "", "AB", 0, -1}, {[]rule{right}, "", "A", 0, -1}, {[]rule{right}, "", "CA", 1, -1}, {[]rule{right}, "", "ABC", 0, -1}, {[]rule{right}, "", "AC(3)", 0, 0}, {[]rule{right}, "", "Ac", 0, -1}, {[]rule{right}, "", "A[B]C", 0, 0}, {[]rule{right}, "", "A[C]B", 0, -1}, {[]rule{right}, "", "A[C]", 0, -1}, {[]rule{right}, "", "[A]C", 1, -1}, {[]rule{right}, "", "[AC]", 1, 0}, {[]rule{right}, "-+", "A+-C", 0, 0}, {[]rule{right}, "+", "A+-C", 0, -1}, {[]rule{right}, "C", "AC", 0, -1}, {[]rule{right}, "A", "AAC", 0, 0},
		// At both sides.
		{[]rule{both}, "", "BAC", 1, 0}, {[]rule{both}, "", "BA", 1, -1}, {[]rule{both}, "", "AC", 0, -1}, {[]rule{both}, "", "CAB", 1, -1}, {[]rule{both}, "", "BAB", 1, -1}, {[]rule{both}, "", "CAC", 1, -1}, {[]rule{both}, "", "B[AC]", 2, 0}, {[]rule{both}, "", "B[A]C", 2, -1}, {[]rule{both}, "", "B[D]A[D]C", 4, 0}, {[]rule{both}, "+", "B[+A+[D]+C]", 3, 0}, {[]rule{beside('A', a, 'A')}, "", "AAA", 1, 0}, {[]rule{beside('A', a, 'A')}, "", "AAA", 0, -1}, {[]rule{beside('A', a, 'A')}, "", "AAA", 2, -1}, {[]rule{beside('A', a, 'A')}, "A", "AAA", 1, -1},
		// Several, of which the first one that fits counts.
		{[]rule{a, left, right}, "", "BAC", 1, 0}, {[]rule{left, right, a}, "", "BAC", 1, 0}, {[]rule{left, right, a}, "", "CAC", 1, 1}, {[]rule{left, right, a}, "", "CAB", 1, 2}, {[]rule{both, left, right}, "", "BAC", 1, 0}, {[]rule{both, left, right}, "", "BAB", 1, 1}, {[]rule{both, left, right}, "", "CAC", 1, 2}, {[]rule{both, left, right}, "", "CAB", 1, -1}, {[]rule{letters('B', "C"), left, left}, "", "BA", 1, 1}, {[]rule{left, left, letters('B', "C")}, "", "BA", 0, 2}, {[]rule{beside('C', a, 0), beside('B', a, 'B'), beside('B', a, 0)}, "", "BAC", 1, 2},
		// With guards.
		{[]rule{when(left, fails)}, "", "BA", 1, -1}, {[]rule{when(left, holds)}, "", "BA", 1, 0}, {[]rule{when(left, holds, holds, fails), right}, "", "BAC", 1, 1}, {[]rule{when(left, holds, holds, holds), right}, "", "BAC", 1, 0}, {[]rule{when(left, holds)}, "", "CA", 1, -1}, {[]rule{when(both, fails), a}, "", "BAC", 1, 1}, {[]rule{when(beside('B', to('A', 1), 0), sum(-5, 1)), to('A', 1)}, "", "BA(5)", 1, 0}, {[]rule{when(beside('B', to('A', 1), 0), sum(-5, 1)), to('A', 1)}, "", "BA(4)", 1, 1}, {[]rule{when(beside('B', to('A', 1), 0), sum(-5, 1)), to('A', 1)}, "", "CA(5)", 1, 1},
		// Whose value is out of range.
		{[]rule{when(to('A', 1), sum(0, 1000000))}, "", "A(1000000000)", 0, 0}, {[]rule{when(to('A', 1), sum(0, 1000000))}, "", "A(-1000000000)", 0, -1}, {[]rule{when(beside('B', to('A', 1), 'C'), sum(1, 1))}, "", "BA(1000000000)C", 1, 0}, {[]rule{when(to('A', 1), sum(0, 3))}, "", "A(1000000000)", 0, 0},
		// The values of its Args do not matter.
		{[]rule{beside('B', to('A', 1, put('A', sum(0, 1000000))), 0)}, "", "BA(1000000000)", 1, 0},
		// No rule fits a bracket.
		{[]rule{a, left}, "", "B[A]", 1, -1}, {[]rule{a, left}, "", "B[A]", 3, -1}, {nil, "", "[]", 0, -1}, {nil, "+", "[]", 1, -1},
	} {
		if k, e := context.Find(c.rules, c.ignore, read(c.w), c.i); k != c.want || e != api.OK {
			t.Error(c.rules, c.ignore, c.w, c.i, k, e)
		}
	}
}

// All names beside a module, with all names that a rule may ask for.
func TestFindOfAllNeighbours(t *testing.T) {
	for _, stands := range []byte(names) {
		w := []mod{with(stands), with('A', 1), with(stands, 2)}
		for _, asked := range []byte(names) {
			want := -1
			if stands == asked {
				want = 0
			}
			for _, r := range []rule{beside(asked, to('A', 1), 0), beside(0, to('A', 1), asked), beside(asked, to('A', 1), asked), beside(stands, to('A', 1), asked), beside(asked, to('A', 1), stands)} {
				if k, e := context.Find([]rule{r}, "", w, 1); k != want || e != api.OK {
					t.Errorf("%q %q %v %d %v", stands, asked, r, k, e)
				}
			}
		}
	}
}

func TestFindOfOtherIndices(t *testing.T) {
	for _, s := range []string{"", "A", "[]", "BA", "B[A]", strings.Repeat("A", 2000)} {
		w := plain(s)
		for _, i := range others(len(w)) {
			for _, rules := range [][]rule{nil, signal(), largest()} {
				if k, e := context.Find(rules, "+", w, i); k != 0 || e != api.ErrArg {
					t.Error(show(w), i, k, e)
				}
			}
		}
	}
	if k, e := context.Find(nil, "", nil, 0); k != 0 || e != api.ErrArg {
		t.Error(k, e)
	}
	if k, e := context.Find(signal(), "", plain("BAA")[:2], 2); k != 0 || e != api.ErrArg {
		t.Error(k, e)
	}
}

// The error of the rules and what is ignored comes first, then that of the word, then that of the index.
func TestFindWithSeveralErrors(t *testing.T) {
	words := append(wrongWords(), wrongWord{plain("BA"), api.OK}, wrongWord{nil, api.OK})
	for _, c := range fewWrongs() {
		for _, d := range words {
			for _, i := range []int{0, 1, -1, len(d.w), 5000} {
				if k, e := context.Find(c.rules, c.ignore, d.w, i); k != 0 || e != c.e {
					t.Error(brief(c.rules), c.ignore, show(d.w), i, k, e)
				}
			}
		}
	}
	for _, d := range wrongWords() {
		for _, i := range []int{0, 1, -1, len(d.w), 5000} {
			for _, rules := range [][]rule{nil, signal()} {
				if k, e := context.Find(rules, "+", d.w, i); k != 0 || e != d.e {
					t.Error(show(d.w), i, k, e)
				}
			}
		}
	}
	for _, r := range wrongRules() {
		if i, e := context.Find([]rule{letters('A', "F"), r}, "", plain("A"), 0); i != 0 || e != api.ErrBad {
			t.Error(brief(r), i, e)
		}
	}
	for _, r := range crowdedRules() {
		if i, e := context.Find([]rule{letters('A', "F"), r}, "", plain("A"), 0); i != 0 || e != api.ErrMany {
			t.Error(brief(r), i, e)
		}
	}
}

func TestFindOfManyWords(t *testing.T) {
	r := rand.New(rand.NewSource(83))
	fitted, missed := 0, 0
	for range 4000 {
		rules, w := someRules(r), someWord(r, 1+r.Intn(15))
		ignore := someIgnores[r.Intn(len(someIgnores))]
		for i := range w {
			want := found(rules, ignore, w, i)
			if k, e := context.Find(rules, ignore, w, i); k != want || e != api.OK {
				t.Fatal(rules, ignore, show(w), i, k, e, want)
			}
			if want >= 0 && (rules[want].Left != 0 || rules[want].Right != 0) {
				fitted++
			}
			if want < 0 {
				missed++
			}
		}
	}
	if fitted < 1000 || missed < 1000 {
		t.Error(fitted, missed)
	}
}

// With 40 rules of which only the last one fits.
func TestFindOfTheLastRule(t *testing.T) {
	var rules []rule
	for _, name := range []byte(names[3:42]) {
		rules = append(rules, beside('B', letters('A', "F"), name))
	}
	rules = append(rules, beside('B', letters('A', "F"), 'C'))
	if k, e := context.Find(rules, "+", plain("B+A+C"), 2); k != 39 || e != api.OK {
		t.Error(k, e)
	}
	if k, e := context.Find(rules, "+", plain("B+A+"), 2); k != -1 || e != api.OK {
		t.Error(k, e)
	}
}
