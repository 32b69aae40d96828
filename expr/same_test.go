package expr_test

import (
	"slices"
	"testing"

	"gambrel/api"
	"gambrel/expr"
)

func TestSameOfAllPairs(t *testing.T) {
	valid, wrong := good(), bad()
	for i, a := range valid {
		for j, b := range valid {
			if expr.Same(a, b) != (i == j) {
				t.Error(show(a, b))
			}
		}
		for _, b := range wrong {
			if expr.Same(a, b) || expr.Same(b, a) {
				t.Error(show(a, b))
			}
		}
	}
}

// Each pair differs in one place, in a field that belongs to the operation or does not.
func TestSameOfOtherExpressions(t *testing.T) {
	changes := []func(*exp){
		func(e *exp) {},
		func(e *exp) { e.Op += 16 },
		func(e *exp) { e.Name += "\x00" },
		func(e *exp) { e.Value.Kind += 16 },
		func(e *exp) { e.Value.Num.Num += 16 },
		func(e *exp) { e.Value.Num.Den += 16 },
		func(e *exp) { e.Value.Truth = !e.Value.Truth },
		func(e *exp) { e.Value.Str += "\x00" },
		func(e *exp) { e.Value.List = append(slices.Clone(e.Value.List), val{}) },
		func(e *exp) { e.Args = append(slices.Clone(e.Args), exp{}) },
		func(e *exp) { e.Args = []exp{op(api.OpList, e.Args...)} },
	}
	wraps := []func(exp) exp{
		func(e exp) exp { return e },
		func(e exp) exp { return nots(e, 1) },
		func(e exp) exp { return op(api.OpIf, name("x"), nots(e, 1), e) },
		func(e exp) exp { return op(200, e, exp{}) },
		func(e exp) exp { return exp{Op: api.OpName, Name: "true", Args: []exp{name("x"), e}} },
		func(e exp) exp { return nots(e, 30) },
	}
	for _, e := range []exp{{}, {Op: 77}, {Name: "x"}, fixed(whole(1)), fixed(list(whole(1))), name("x"), name(""), op(api.OpList), op(api.OpAdd, name("x"), name("y")), op(99, exp{}), {Op: 5, Name: "a", Value: list(val{}), Args: []exp{{}}}} {
		for _, change := range changes {
			changed := e
			change(&changed)
			for _, wrap := range wraps {
				a, b := wrap(e), wrap(changed)
				if expr.Same(a, b) != identical(e, changed) || expr.Same(b, a) != identical(e, changed) {
					t.Error(show(a, b))
				}
			}
		}
	}
}

func TestNilAndEmptyListsAreTheSame(t *testing.T) {
	for _, e := range []exp{{}, fixed(whole(1)), name("x"), op(api.OpList), op(api.OpAdd)} {
		a, b := e, e
		a.Args, b.Args = nil, make([]exp, 0, 5)
		a.Value.List, b.Value.List = []val{}, nil
		if !expr.Same(a, b) || !expr.Same(b, a) || !expr.Same(op(api.OpList, a, b), op(api.OpList, b, a)) {
			t.Error(show(e))
		}
	}
}

func TestTwin(t *testing.T) {
	for _, e := range slices.Concat(good(), several(1000, false)) {
		if f := expr.Twin(e); !identical(e, f) || !expr.Same(e, f) || expr.Check(f) != api.OK {
			t.Error(show(e, f))
		}
	}
	inner := exp{Op: 7, Name: "\xff", Value: val{Kind: 9, Num: api.Ratio{Num: 3, Den: -3}, Truth: true, Str: long(1000), List: []val{{List: []val{whole(1)}}}}, Args: []exp{{}}}
	for _, e := range []exp{{}, row(name("x"), 1000), nots(name("true"), 100), inner, row(inner, 3), {Args: []exp{inner, {Args: []exp{}}}}} {
		if f := expr.Twin(e); !identical(e, f) || !expr.Same(e, f) {
			t.Error(show(e, f))
		}
	}
}

// Levels of nesting up to the limit of the document.
func TestSameAndTwinOfDeepExpressions(t *testing.T) {
	const levels = 1 << 16
	a, b := nots(name("x"), levels), nots(name("y"), levels)
	if !expr.Same(a, a) || expr.Same(a, b) || !expr.Same(b, expr.Twin(b)) || expr.Same(a, expr.Twin(b)) {
		t.Error("deep expressions")
	}
	if e := expr.Check(a); e != api.ErrMany {
		t.Error(e)
	}
}

func TestSameAndTwinOfExpressionsThatContainThemselves(t *testing.T) {
	a, b, c := endless(), endless(), endless()
	c.Args[0] = fixed(whole(2))
	one, two := fixed(whole(1)), fixed(whole(2))
	if !expr.Same(a, a) || !expr.Same(a, b) || expr.Same(a, c) || !expr.Same(a, op(api.OpList, one, b)) || expr.Same(a, op(api.OpList, two, b)) || expr.Same(a, op(api.OpList, one)) {
		t.Error("expressions that contain themselves")
	}
	twin := expr.Twin(a)
	if !expr.Same(twin, a) || expr.Same(twin, c) {
		t.Error("a copy of an expression that contains itself")
	}
	// However many levels of the copy were written out, none of them is a part of what was copied.
	for level := twin.Args; level[0].Value.Num.Num == 1; level = level[1].Args {
		level[0] = two
	}
	if !expr.Same(twin, c) || !expr.Same(a, b) {
		t.Error("a copy that was changed")
	}
	v := fixed(endlessValue())
	if !expr.Same(v, fixed(endlessValue())) || !expr.Same(v, expr.Twin(v)) || expr.Same(v, fixed(list(whole(1)))) {
		t.Error("values that contain themselves")
	}
}

// All of many expressions contain all of them.
func TestSameAndTwinOfExpressionsThatContainEachOther(t *testing.T) {
	tangle := func(n int) exp {
		args := make([]exp, n)
		for i := range args {
			args[i] = op(api.OpList, args[:n-i%2]...)
			args[i].Name = string(rune('a' + i%2))
		}
		return op(api.OpList, args...)
	}
	a, b, c := tangle(60), tangle(60), tangle(60)
	c.Args[59].Name = "c"
	twin := expr.Twin(a)
	if !expr.Same(a, b) || expr.Same(a, c) || !expr.Same(a, twin) || expr.Check(a) != api.ErrMany {
		t.Error("expressions that contain each other")
	}
}

// An expression of two parts that are in the same place, and so on: its parts are too many to be gone through one by one.
func TestSameOfExpressionsThatContainOneTwice(t *testing.T) {
	a, b, c := name("x"), name("x"), name("y")
	for range 60 {
		a, b, c = op(api.OpList, a, a), op(api.OpList, b, b), op(api.OpList, c, c)
		a.Args = slices.Repeat(a.Args[:1], 2)
	}
	if !expr.Same(a, b) || expr.Same(a, c) || expr.Check(a) != api.ErrMany {
		t.Error("expressions that contain one twice")
	}
}
