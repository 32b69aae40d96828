package expr_test

import (
	"slices"
	"testing"

	"gambrel/api"
	"gambrel/expr"
)

// all returns valid expressions with and without names.
func all() []exp {
	return slices.Concat(good(), several(3000, false), several(2000, true))
}

func TestFoldedExpressionsHaveTheSameValue(t *testing.T) {
	wrong := [][]api.Bind{{bind("X", whole(1))}, {bind("x", val{})}, slices.Repeat([]api.Bind{bind("x", whole(1))}, 41)}
	for _, e := range all() {
		f, fault := expr.Fold(e)
		if fault != api.OK || expr.Check(f) != api.OK {
			t.Error(show(e, f), fault)
		}
		for _, env := range append(environments(), wrong...) {
			v, first := expr.Eval(e, env)
			w, second := expr.Eval(f, env)
			if first != second || !identicalValues(v, w) {
				t.Error(show(e, f, v, w), first, second)
			}
		}
	}
}

func TestFoldingTwiceChangesNothing(t *testing.T) {
	for _, e := range all() {
		once, _ := expr.Fold(e)
		if twice, fault := expr.Fold(once); !is(twice, fault, once) {
			t.Error(show(e, once, twice), fault)
		}
	}
}

func TestFoldedExpressionsWithoutNamesAreThoseOfValues(t *testing.T) {
	values := 0
	for _, e := range all() {
		f, _ := expr.Fold(e)
		v, fault := expr.Eval(f, nil)
		if !nameless(f) || fault != api.OK {
			continue
		}
		values++
		if !identical(f, constant(v)) {
			t.Error(show(e, f, v))
		}
	}
	if values < 1000 {
		t.Error(values)
	}
}

func TestReplacedNamesAreBoundNames(t *testing.T) {
	tries := 0
	for _, e := range append(good(), several(1500, false)...) {
		for _, s := range []string{"n", "t", "l", "unbound", "x"} {
			for _, v := range []val{whole(1), truth(true), str("ab"), list(), list(whole(0), list(whole(1), str("b")))} {
				f, fault := expr.Bind(e, s, v)
				if fault != api.OK {
					continue
				}
				for _, env := range environments() {
					tries++
					w, first := expr.Eval(f, env)
					u, second := expr.Eval(e, append([]api.Bind{bind(s, v)}, env...))
					if first != second || !identicalValues(w, u) {
						t.Error(show(e, s, v, w, u), first, second)
					}
				}
			}
		}
	}
	if tries < 10000 {
		t.Error(tries)
	}
}

func TestParseOfTextIsTheExpression(t *testing.T) {
	for _, e := range all() {
		text, fault := expr.Text(e)
		back, second := expr.Parse(text)
		if fault != api.OK || !is(back, second, e) {
			t.Error(show(e, back), text, fault, second)
		}
	}
}

func TestExamples(t *testing.T) {
	x := func(v val) []api.Bind { return []api.Bind{bind("x", v)} }
	sum, choice := parse(t, "(x + 1/2)"), parse(t, `if((x < 0), at([], 0), "ok")`)
	if v, e := expr.Eval(sum, x(num(3, 2))); !hasValue(v, e, whole(2)) {
		t.Error(show(v), e)
	}
	if v, e := expr.Eval(sum, nil); !noValue(v, e, api.ErrNone) {
		t.Error(show(v), e)
	}
	if v, e := expr.Eval(choice, x(whole(1))); !hasValue(v, e, str("ok")) {
		t.Error(show(v), e)
	}
	if v, e := expr.Eval(choice, x(whole(-1))); !noValue(v, e, api.ErrArg) {
		t.Error(show(v), e)
	}
	if e, fault := expr.Parse("(1+2)"); !none(e, fault, api.ErrForm) {
		t.Error(show(e), fault)
	}
}
