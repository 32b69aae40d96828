package rewrite_test

import (
	"slices"
	"strings"
	"testing"

	"gambrel/api"
	"gambrel/rewrite"
)

func TestCheckOfValidRules(t *testing.T) {
	for i, rules := range goods() {
		if e := rewrite.Check(rules); e != api.OK || checked(rules) != api.OK {
			t.Error(i, rules, e)
		}
	}
}

func TestCheckOfWrongRules(t *testing.T) {
	for _, c := range wrongs() {
		if e := rewrite.Check(c.rules); e != c.e || checked(c.rules) != c.e {
			t.Error(c.why, len(c.rules), brief(c.rules), e)
		}
	}
	for _, c := range fewWrongs() {
		if e := rewrite.Check(c.rules); e != c.e {
			t.Error(c.why, e)
		}
	}
}

func TestCheckOfNoRules(t *testing.T) {
	for _, rules := range [][]rule{nil, {}, make([]rule, 0, 10), []rule{{}}[:0], make([]rule, 41)[41:]} {
		if e := rewrite.Check(rules); e != api.OK {
			t.Error(rules, e)
		}
	}
	// What stands in the memory behind a slice is no part of it.
	r := rule{Name: 'A', Guards: make([]form, 5)[:0], Out: make([]shape, 21)[:0]}
	if e := rewrite.Check(append(make([]rule, 0, 50), r, rule{Name: '#'})[:1]); e != api.OK {
		t.Error(e)
	}
}

func TestCheckOfLimits(t *testing.T) {
	for n := range 60 {
		want := func(most int) api.Errno {
			if n > most {
				return api.ErrMany
			}
			return api.OK
		}
		if e := rewrite.Check(slices.Repeat([]rule{letters('A', "F")}, n)); e != want(40) {
			t.Error("rules", n, e)
		}
		if e := rewrite.Check([]rule{letters('B', "F"), when(to('A', 1), slices.Repeat([]form{sum(0, 1)}, n)...)}); e != want(4) {
			t.Error("guards", n, e)
		}
		for arity := range 5 {
			if e := rewrite.Check([]rule{letters('B', "F"), to('A', arity, shapesOf(n, arity)...)}); e != want(20) {
				t.Error("shapes", n, arity, e)
			}
		}
		if e := rewrite.Check([]rule{letters('B', "F"), to('A', 0, put('F', slices.Repeat([]form{sum(1)}, n)...))}); n <= 4 && e != api.OK || n > 4 && e != api.ErrBad {
			t.Error("args", n, e)
		}
		if e := rewrite.Check([]rule{to('A', n, put('F', sum(1, make([]int, n)...)))}); n <= 4 && e != api.OK || n > 4 && e != api.ErrBad {
			t.Error("arity", n, e)
		}
	}
	if e := rewrite.Check(largest()); e != api.OK {
		t.Error(e)
	}
	// The limit is that of one rule, not of all together.
	if e := rewrite.Check(slices.Repeat([]rule{when(letters('A', strings.Repeat("F", 20)), slices.Repeat([]form{sum(0)}, 4)...)}, 40)); e != api.OK {
		t.Error(e)
	}
}

// Too many of something anywhere comes before all else that is wrong, in whichever order the rules stand.
func TestCheckOfSeveralErrors(t *testing.T) {
	bad := []rule{letters('#', "F"), letters('[', "["), to('A', -1), to('A', 5), {Name: 'A', Left: 'B'}, {Name: 'A', Right: 'B'}, {Name: 'A', Weight: 1}, when(letters('A', ""), sum(0, 1)), when(letters('A', ""), sum(api.MaxCoef+1)), letters('A', "#"), letters('A', "]"), to('A', 1, put('F', sum(0))), {}}
	for _, b := range bad {
		for _, m := range crowded() {
			for _, rules := range [][]rule{{b, m}, {m, b}, {b, m, b}, {m, b, m}, {letters('A', "A"), b, letters('B', "B"), m}, slices.Concat(slices.Repeat([]rule{b}, 39), []rule{m})} {
				if e := rewrite.Check(rules); e != api.ErrMany {
					t.Error(brief(rules), e)
				}
			}
		}
		for _, other := range bad {
			if e := rewrite.Check([]rule{b, other}); e != api.ErrBad {
				t.Error(b, other, e)
			}
		}
	}
}

func TestCheckOfAllNames(t *testing.T) {
	for b := range 256 {
		name := byte(b)
		rules, shapes, pair := api.ErrBad, api.ErrBad, api.ErrBad
		switch {
		case name == '[' || name == ']':
		case strings.IndexByte(names, name) >= 0:
			rules, shapes = api.OK, api.OK
		}
		if name == ']' {
			pair = api.OK
		}
		for _, c := range []struct {
			r    rule
			want api.Errno
		}{
			{rule{Name: name}, rules}, {letters(name, "F"), rules}, {to(name, 4), rules}, {letters(name, "[F]"), rules},
			{to('A', 0, put(name)), shapes}, {to('A', 1, put(name, sum(0, 1))), shapes}, {to('A', 0, put(name, sum(1), sum(2), sum(3), sum(4))), shapes}, {to('A', 0, put('['), put(name), put(']')), shapes},
			{to('A', 0, put('['), put(name)), pair}, {to('A', 0, put('['), put(name, sum(0))), api.ErrBad}, {to('A', 0, put(name, sum(1), sum(2), sum(3), sum(4), sum(5))), api.ErrBad},
		} {
			if e := rewrite.Check([]rule{c.r}); e != c.want || checked([]rule{c.r}) != c.want {
				t.Errorf("%q %v %v %v", name, c.r, e, c.want)
			}
		}
	}
}

// Forms with numbers at the limits, in all places.
func TestCheckOfForms(t *testing.T) {
	for arity := range 5 {
		fine := sum(0, make([]int, arity)...)
		for at := range arity + 1 {
			for _, n := range append(beside(api.MaxCoef), 0, 1, -1, 999999, -999999, api.MaxCoef, -api.MaxCoef) {
				f := sum(0, make([]int, arity)...)
				if at == arity {
					f.Const = n
				} else {
					f.Coefs[at] = n
				}
				want := api.OK
				if n > 1000000 || n < -1000000 {
					want = api.ErrBad
				}
				for _, r := range []rule{when(to('A', arity), f), when(to('A', arity), fine, fine, fine, f), to('A', arity, put('F', f)), to('A', arity, put('F'), put('F', fine, fine, fine, f))} {
					if e := rewrite.Check([]rule{r}); e != want {
						t.Error(r, e)
					}
				}
			}
		}
	}
}

func TestCheckOfNumbersOfCoefs(t *testing.T) {
	for arity := range 5 {
		for n := range 8 {
			f := sum(0, make([]int, n)...)
			want := api.ErrBad
			if n == arity {
				want = api.OK
			}
			for _, r := range []rule{when(to('A', arity), f), to('A', arity, put('F', f))} {
				if e := rewrite.Check([]rule{r}); e != want {
					t.Error(r, e)
				}
			}
		}
	}
	for _, coefs := range [][]int{nil, {}} {
		if e := rewrite.Check([]rule{{Name: 'A', Guards: []form{{Coefs: coefs}}, Out: []shape{{Name: 'F', Args: []form{{Coefs: coefs}}}}}}); e != api.OK {
			t.Error(coefs == nil, e)
		}
	}
}

func TestCheckOfAllBrackets(t *testing.T) {
	matched := 0
	for _, s := range bracketed(8) {
		want := api.ErrBad
		if matching(s) {
			want = api.OK
			matched++
		}
		if e := rewrite.Check([]rule{letters('A', s)}); e != want {
			t.Error(s, e)
		}
	}
	if matched < 300 {
		t.Error(matched)
	}
	// Brackets match in each rule by itself.
	for _, pair := range [][2]string{{"[", "]"}, {"]", "["}, {"F[", "]F"}, {"[[", "]]"}} {
		if e := rewrite.Check([]rule{letters('A', pair[0]), letters('B', pair[1])}); e != api.ErrBad {
			t.Error(pair, e)
		}
	}
}

// Each rule counts, also where another one always comes before it.
func TestCheckOfRulesThatNeverFit(t *testing.T) {
	for _, r := range []rule{letters('A', "["), when(letters('A', "F"), sum(0, 0)), to('A', 0, put('F', sum(0, 0))), letters('A', "#")} {
		if e := rewrite.Check([]rule{letters('A', "F"), r}); e != api.ErrBad {
			t.Error(r, e)
		}
		if e := rewrite.Check([]rule{letters('A', "F"), when(letters('A', "F"), sum(-1)), r}); e != api.ErrBad {
			t.Error(r, e)
		}
	}
}
