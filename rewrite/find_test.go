package rewrite_test

import (
	"math/rand"
	"slices"
	"testing"

	"gambrel/api"
	"gambrel/rewrite"
)

func TestFind(t *testing.T) {
	several := []rule{letters('A', "B"), letters('B', "A"), letters('A', "C"), to('A', 1, put('A')), to('A', 2), to('+', 0), to('A', 1), to('b', 4)}
	for _, c := range []struct {
		rules []rule
		m     mod
		want  int
	}{
		{tree(), with('A', 2), 0}, {tree(), with('A', 1), 0}, {tree(), with('A', 0), 1}, {tree(), with('A', -5), 1}, {tree(), with('A'), -1}, {tree(), with('A', 2, 2), -1}, {tree(), with('F', 2), -1}, {tree(), with('a', 2), -1}, {tree(), with('['), -1}, {tree(), with(']'), -1},
		{several, with('A'), 0}, {several, with('B'), 1}, {several, with('A', 0), 3}, {several, with('A', 0, 0), 4}, {several, with('+'), 5}, {several, with('b', 1, 2, 3, 4), 7}, {several, with('b'), -1}, {several, with('b', 1, 2, 3), -1}, {several, with('B', 1), -1}, {several, with('C'), -1}, {several, with('A', 1, 2, 3), -1}, {several, with('-'), -1},
		{several[1:], with('A'), 1}, {several[3:], with('A'), -1}, {several[4:], with('A', 9), 2},
	} {
		if i, e := rewrite.Find(c.rules, c.m); i != c.want || e != api.OK {
			t.Error(c.rules, c.m, i, e)
		}
	}
}

func TestFindWithoutRules(t *testing.T) {
	for _, rules := range [][]rule{nil, {}, []rule{letters('A', "B")}[:0]} {
		for _, m := range []mod{with('A'), with('A', 1), with('['), with(']'), with('!', top, -top, 0, 1)} {
			if i, e := rewrite.Find(rules, m); i != -1 || e != api.OK {
				t.Error(m, i, e)
			}
		}
		if i, e := rewrite.Find(rules, with('#')); i != 0 || e != api.ErrBad {
			t.Error(i, e)
		}
	}
}

// All names with all numbers of Args.
func TestFindOfNamesAndArities(t *testing.T) {
	for _, name := range []byte(names) {
		for arity := range 5 {
			rules := []rule{to(name, arity)}
			for _, other := range []byte(names + "[]") {
				for n := range 5 {
					if n > 0 && (other == '[' || other == ']') {
						continue
					}
					want := -1
					if name == other && arity == n {
						want = 0
					}
					if i, e := rewrite.Find(rules, with(other, []int{7, -7, 0, top}[:n]...)); i != want || e != api.OK {
						t.Errorf("%q %d %q %d: %d %v", name, arity, other, n, i, e)
					}
				}
			}
		}
	}
}

// Args that are nil and ones that are empty are the same.
func TestFindWithoutArgs(t *testing.T) {
	for _, args := range [][]int{nil, {}, make([]int, 4)[:0]} {
		for _, rules := range [][]rule{{letters('A', "B")}, {when(letters('A', "B"), sum(0))}, {when(letters('A', "B"), form{Coefs: []int{}})}, {{Name: 'A', Guards: []form{}, Out: []shape{}}}} {
			if i, e := rewrite.Find(rules, mod{Name: 'A', Args: args}); i != 0 || e != api.OK {
				t.Error(args == nil, rules, i, e)
			}
		}
	}
}

func TestFindWithGuards(t *testing.T) {
	for _, c := range []struct {
		guards []form
		args   []int
		fits   bool
	}{
		// Of the values -1, 0 and 1.
		{[]form{sum(-1)}, nil, false}, {[]form{sum(0)}, nil, true}, {[]form{sum(1)}, nil, true}, {[]form{sum(0, 1)}, []int{-1}, false}, {[]form{sum(0, 1)}, []int{0}, true}, {[]form{sum(0, 1)}, []int{1}, true}, {[]form{sum(0, -1)}, []int{1}, false}, {[]form{sum(-1, 1)}, []int{0}, false}, {[]form{sum(-1, 1)}, []int{1}, true}, {[]form{sum(-5, 1)}, []int{4}, false}, {[]form{sum(-5, 1)}, []int{5}, true}, {[]form{sum(5, -1)}, []int{5}, true}, {[]form{sum(5, -1)}, []int{6}, false},
		{[]form{sum(0, 1, -1)}, []int{3, 3}, true}, {[]form{sum(0, 1, -1)}, []int{3, 4}, false}, {[]form{sum(0, 1, -1)}, []int{4, 3}, true}, {[]form{sum(0, 0, 0, 0, 1)}, []int{-1, -1, -1, 0}, true}, {[]form{sum(0, 0, 0, 0, 1)}, []int{0, 0, 0, -1}, false},
		// Several of them: all must hold.
		{[]form{sum(0), sum(0)}, nil, true}, {[]form{sum(-1), sum(1)}, nil, false}, {[]form{sum(1), sum(-1)}, nil, false}, {[]form{sum(1), sum(1), sum(1), sum(-1)}, nil, false}, {[]form{sum(-1), sum(1), sum(1), sum(1)}, nil, false}, {[]form{sum(1), sum(-1), sum(1), sum(1)}, nil, false}, {[]form{sum(1), sum(1), sum(-1), sum(1)}, nil, false}, {[]form{sum(1), sum(0), sum(1), sum(0)}, nil, true}, {[]form{sum(-1), sum(-1)}, nil, false},
		{[]form{sum(0, 1), sum(9, -1)}, []int{0}, true}, {[]form{sum(0, 1), sum(9, -1)}, []int{9}, true}, {[]form{sum(0, 1), sum(9, -1)}, []int{10}, false}, {[]form{sum(0, 1), sum(9, -1)}, []int{-1}, false},
		// Of values out of range, and at the edge of it.
		{[]form{sum(0, 1)}, []int{top}, true}, {[]form{sum(1, 1)}, []int{top}, true}, {[]form{sum(0, 1)}, []int{-top}, false}, {[]form{sum(-1, 1)}, []int{-top}, false}, {[]form{sum(0, 2)}, []int{top}, true}, {[]form{sum(0, 2)}, []int{-top}, false}, {[]form{sum(0, 1000000)}, []int{top}, true}, {[]form{sum(0, 1000000)}, []int{-top}, false}, {[]form{sum(0, -1000000)}, []int{top}, false}, {[]form{sum(0, -1000000)}, []int{-top}, true},
		{[]form{sum(1000000, 1000000, 1000000, 1000000, 1000000)}, []int{top, top, top, top}, true}, {[]form{sum(-1000000, 1000000, 1000000, 1000000, 1000000)}, []int{-top, -top, -top, -top}, false}, {[]form{sum(0, 1000000, -1000000)}, []int{top, top}, true}, {[]form{sum(-1, 1000000, -1000000)}, []int{top, top}, false}, {[]form{sum(0, 1000000, 1000000, -1000000, -1000000)}, []int{top, top, top, top}, true}, {[]form{sum(-1, 1000000, 1000000, -1000000, -1000000)}, []int{top, top, top, top}, false},
		// Of these, 32 bits have another sign.
		{[]form{sum(0, 3)}, []int{top}, true}, {[]form{sum(0, -3)}, []int{top}, false}, {[]form{sum(0, 1<<16)}, []int{1 << 15}, true}, {[]form{sum(-1, 1<<16)}, []int{1 << 16}, true}, {[]form{sum(1, -1<<16)}, []int{1 << 16}, false},
		{[]form{sum(0, 1000000), sum(-1)}, []int{top}, false}, {[]form{sum(0, 1000000), sum(0, 1)}, []int{top}, true}, {[]form{sum(0, 1), sum(0, -1000000)}, []int{top}, false},
	} {
		arity := len(c.args)
		guards := slices.Clone(c.guards)
		for i, g := range guards {
			if len(g.Coefs) == 0 {
				guards[i].Coefs = make([]int, arity)
			}
		}
		m := with('A', c.args...)
		want := 1
		if c.fits {
			want = 0
		}
		if i, e := rewrite.Find([]rule{when(to('A', arity), guards...), to('A', arity)}, m); i != want || e != api.OK {
			t.Error(guards, m, i, e)
		}
		if i, e := rewrite.Find([]rule{when(to('A', arity), guards...)}, m); i != -want || e != api.OK {
			t.Error(guards, m, i, e)
		}
	}
}

// The first one that fits, of several whose guards differ.
func TestFindTheFirst(t *testing.T) {
	var rules []rule
	for i := range 40 {
		rules = append(rules, when(to('A', 1, put(names[i])), sum(-200+5*i, 1)))
	}
	for x := -10; x < 250; x++ {
		want := max(0, (200-x+4)/5)
		if want > 39 {
			want = -1
		}
		if i, e := rewrite.Find(rules, with('A', x)); i != want || e != api.OK {
			t.Error(x, i, want, e)
		}
	}
	if i, e := rewrite.Find(slices.Concat(slices.Repeat([]rule{letters('B', "A")}, 39), []rule{letters('A', "B")}), with('A')); i != 39 || e != api.OK {
		t.Error(i, e)
	}
}

// What the rule would put out does not matter to whether it fits.
func TestFindOfOut(t *testing.T) {
	for _, out := range [][]shape{nil, bare("[[]]"), bare("A"), {put('F', sum(1000000, 1000000))}, {put('F', sum(1, 1)), put('G', sum(0, -1000000))}} {
		if i, e := rewrite.Find([]rule{to('A', 1, out...), to('A', 1)}, with('A', top)); i != 0 || e != api.OK {
			t.Error(out, i, e)
		}
	}
}

func TestFindOfBadModules(t *testing.T) {
	for _, m := range badModules() {
		for _, rules := range [][]rule{nil, tree(), largest(), {letters('A', "B")}, {to('A', 1), to('A', 4)}} {
			if i, e := rewrite.Find(rules, m); i != 0 || e != api.ErrBad {
				t.Error(rules, m, i, e)
			}
		}
	}
}

func TestFindReturnsTheErrorOfCheckFirst(t *testing.T) {
	for _, c := range wrongs() {
		if i, e := rewrite.Find(c.rules, with('A')); i != 0 || e != c.e {
			t.Error(c.why, brief(c.rules), i, e)
		}
	}
	for _, c := range fewWrongs() {
		for _, m := range []mod{with('F'), with('['), with('A', 1), with('#'), with('A', top+1), with('[', 1), with('A', 1, 2, 3, 4, 5), with('[', 1, 2, 3, 4, 5)} {
			if i, e := rewrite.Find(c.rules, m); i != 0 || e != c.e {
				t.Error(c.why, m, i, e)
			}
		}
	}
}

func TestFindInManyRules(t *testing.T) {
	r := rand.New(rand.NewSource(71))
	indices := map[int]int{}
	for range 4000 {
		rules := someRules(r)
		for _, m := range someWord(r, 12) {
			i, e := rewrite.Find(rules, m)
			if want := found(rules, m); i != want || e != api.OK {
				t.Fatal(rules, m, i, want, e)
			}
			indices[i]++
		}
	}
	for i := -1; i < 8; i++ {
		if indices[i] < 50 {
			t.Error(indices)
		}
	}
}

// Modules with the greatest numbers of Args and guards.
func TestFindInLargestRules(t *testing.T) {
	all := largest()
	for i, r := range all {
		for _, args := range [][]int{{0, 0, 0, 0}, {top, top, top, top}, {-top, top, -top, top}, {1, 1, 0, -1}, {0, 1, 0, 0}, {0, 2, 0, 0}, {5, 0, -1, 9}} {
			m := with(r.Name, args...)
			want := -1
			if !slices.ContainsFunc(r.Guards, func(g form) bool { return worth(g, args).Sign() < 0 }) {
				want = i
			}
			if k, e := rewrite.Find(all, m); k != want || e != api.OK {
				t.Error(m, k, want, e)
			}
		}
	}
}
