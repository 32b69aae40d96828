package rewrite_test

import (
	"math/rand"
	"slices"
	"strings"
	"testing"

	"gambrel/api"
	"gambrel/rewrite"
	"gambrel/word"
)

// joint checks a step of the joint word against the steps of its parts, and reports whether it has no error.
func joint(t *testing.T, rules []rule, a, b []mod) bool {
	t.Helper()
	whole, e := word.Join(a, b)
	if e != api.OK {
		t.Fatal(show(a, b), e)
	}
	first, f := rewrite.Step(rules, a)
	second, g := rewrite.Step(rules, b)
	next, h := rewrite.Step(rules, whole)
	switch {
	case f == api.ErrRange || g == api.ErrRange:
		e = api.ErrRange
	case f == api.ErrMany || g == api.ErrMany || len(first)+len(second) > api.MaxWord:
		e = api.ErrMany
	}
	want := slices.Concat(first, second)
	if e != api.OK {
		want = nil
	}
	if !agrees(next, h, want, e) {
		t.Error(rules, show(a, b, next), h, e)
	}
	return h == api.OK
}

func TestStepsOfJointWords(t *testing.T) {
	steps := 0
	all := words()
	for _, rules := range goods() {
		for i, a := range all {
			for k, b := range all {
				if len(a)+len(b) <= api.MaxWord && (i+k)%7 == 0 && joint(t, rules, a, b) {
					steps++
				}
			}
		}
	}
	if steps < 1000 {
		t.Error(steps)
	}
	for _, c := range [][2]string{{"A(2)", "[A(1)]"}, {"", "A(1)"}, {"A(1)", ""}, {"", ""}, {"[A(3)]", "[A(0)]F"}, {"A(1)A(0)", "A(0)A(1)"}} {
		if !joint(t, tree(), read(c[0]), read(c[1])) {
			t.Error(c)
		}
	}
	// Each part is short enough, both together are not.
	many := []rule{letters('A', "FF")}
	if joint(t, many, plain(strings.Repeat("A", 600)), plain(strings.Repeat("A", 401))) || !joint(t, many, plain(strings.Repeat("A", 600)), plain(strings.Repeat("A", 400))) {
		t.Error("not as many as the parts")
	}
}

// Branches are rewritten as the words that they are.
func TestStepsOfBranches(t *testing.T) {
	r := rand.New(rand.NewSource(74))
	for range 500 {
		rules, w := someRules(r), someWord(r, 10)
		inside, e := rewrite.Step(rules, w)
		branch, f := rewrite.Step(rules, slices.Concat(plain("F["), w, plain("]")))
		outside, g := rewrite.Step(rules, plain("F"))
		if g != api.OK {
			continue
		}
		if e != f || e == api.OK && !identical(branch, slices.Concat(outside, plain("["), inside, plain("]"))) {
			t.Error(rules, show(w, inside, branch), e, f)
		}
	}
}

func TestBracketsMatchAfterEachStep(t *testing.T) {
	r := rand.New(rand.NewSource(75))
	changed := 0
	for range 500 {
		rules, w := someRules(r), someWord(r, 15)
		for range 30 {
			next, e := rewrite.Step(rules, w)
			if e != api.OK {
				break
			}
			if word.Check(next) != api.OK {
				t.Fatal(rules, show(w, next))
			}
			if !word.Same(w, next) {
				changed++
			}
			w = next
		}
	}
	if changed < 1000 {
		t.Error(changed)
	}
	for _, s := range bracketed(6) {
		if !matching(s) {
			continue
		}
		rules := []rule{letters('F', s)}
		for _, u := range []string{"F", "[F]", "F[F]F", "[[F]F]", "[]F"} {
			next, e := rewrite.Step(rules, plain(u))
			if want := plain(strings.ReplaceAll(u, "F", s)); !is(next, e, want) || word.Check(next) != api.OK {
				t.Error(s, u, show(next), e)
			}
		}
	}
}

func TestStepsAfterSteps(t *testing.T) {
	r := rand.New(rand.NewSource(76))
	together := 0
	for range 600 {
		rules, w := someRules(r), someWord(r, 1+r.Intn(10))
		a := r.Intn(31)
		b := r.Intn(31 - a)
		first, e := rewrite.Run(rules, w, a)
		all, f := rewrite.Run(rules, w, a+b)
		if e != api.OK {
			if !none(all, f, e) {
				t.Error(rules, a, b, show(w, all), e, f)
			}
			continue
		}
		second, g := rewrite.Run(rules, first, b)
		if !agrees(all, f, second, g) {
			t.Error(rules, a, b, show(w, all, second), f, g)
		}
		together++
	}
	if together < 300 {
		t.Error(together)
	}
	for n := range 10 {
		w := read("A(5)B")
		for range n {
			w, _ = rewrite.Step(tree(), w)
		}
		if next, e := rewrite.Run(tree(), read("A(5)B"), n); !is(next, e, w) {
			t.Error(n, show(w, next), e)
		}
	}
}

// covered returns the rules without those that stand behind one with the same Name and Arity, and without Guards.
func covered(rules []rule) []rule {
	var rest []rule
	for _, r := range rules {
		before := func(other rule) bool { return other.Name == r.Name && other.Arity == r.Arity && len(other.Guards) == 0 }
		if !slices.ContainsFunc(rest, before) {
			rest = append(rest, r)
		}
	}
	return rest
}

func TestRulesThatNeverMatter(t *testing.T) {
	r := rand.New(rand.NewSource(78))
	dropped := 0
	for range 1000 {
		rules, w := someRules(r), someWord(r, 10)
		few := covered(rules)
		dropped += len(rules) - len(few)
		for n := range 4 {
			next, e := rewrite.Run(rules, w, n)
			same, f := rewrite.Run(few, w, n)
			if !agrees(next, e, same, f) {
				t.Error(rules, few, show(w, next, same), e, f)
			}
		}
		for _, m := range w {
			i, _ := rewrite.Find(rules, m)
			k, _ := rewrite.Find(few, m)
			if (i < 0) != (k < 0) || i >= 0 && !sameRule(rules[i], few[k]) {
				t.Error(rules, few, m, i, k)
			}
		}
	}
	if dropped < 300 {
		t.Error(dropped)
	}
	fits := []rule{letters('A', "B")}
	for _, never := range []rule{letters('A', "C"), letters('A', ""), when(letters('A', "CC"), sum(0)), when(letters('A', "A"), sum(1000000), sum(1))} {
		if w, e := rewrite.Step(append(slices.Clone(fits), never), plain("ACA")); !is(w, e, plain("BCB")) {
			t.Error(never, show(w), e)
		}
	}
	// A rule that is none of these matters.
	for _, c := range []struct {
		rules []rule
		want  string
	}{{[]rule{when(letters('A', "B"), sum(-1)), letters('A', "C")}, "CA(0)"}, {[]rule{letters('B', "B"), letters('A', "C")}, "CA(0)"}, {[]rule{to('A', 1, put('B')), letters('A', "C")}, "CB"}, {[]rule{letters('A', "C"), to('A', 1, put('B'))}, "CB"}} {
		if w, e := rewrite.Step(c.rules, read("AA(0)")); !is(w, e, read(c.want)) {
			t.Error(c.rules, show(w), e)
		}
	}
}

func sameRule(a, b rule) bool {
	sameForm := func(f, g form) bool { return f.Const == g.Const && slices.Equal(f.Coefs, g.Coefs) }
	sameShape := func(s, u shape) bool { return s.Name == u.Name && slices.EqualFunc(s.Args, u.Args, sameForm) }
	return a.Name == b.Name && a.Arity == b.Arity && slices.EqualFunc(a.Guards, b.Guards, sameForm) && slices.EqualFunc(a.Out, b.Out, sameShape)
}

// A step puts out what Find and Value say.
func TestStepsByFindAndValue(t *testing.T) {
	r := rand.New(rand.NewSource(79))
	fitted := 0
	for range 1000 {
		rules := someRules(r)
		for _, m := range someWord(r, 10) {
			if m.Name == '[' || m.Name == ']' {
				continue
			}
			i, e := rewrite.Find(rules, m)
			next, f := rewrite.Step(rules, []mod{m})
			if e != api.OK || i < 0 {
				if e != api.OK || !is(next, f, []mod{m}) {
					t.Error(rules, m, i, e, show(next), f)
				}
				continue
			}
			var want []mod
			wantError := api.OK
			for _, s := range rules[i].Out {
				n := mod{Name: s.Name}
				for _, g := range s.Args {
					v, e := rewrite.Value(g, m.Args)
					wantError = max(wantError, e)
					n.Args = append(n.Args, v)
				}
				want = append(want, n)
			}
			if wantError != api.OK {
				want = nil
			}
			if !agrees(next, f, want, wantError) {
				t.Error(rules, m, i, show(next, want), f, wantError)
			}
			fitted++
		}
	}
	if fitted < 1000 {
		t.Error(fitted)
	}
}
