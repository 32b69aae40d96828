package expr_test

import (
	"strings"
	"testing"

	"gambrel/api"
	"gambrel/expr"
)

// nameless reports whether no name stands in an expression, found without the program.
func nameless(e exp) bool {
	for _, arg := range e.Args {
		if !nameless(arg) {
			return false
		}
	}
	return e.Op != api.OpName
}

// folded returns the folded expression, found without the program.
func folded(e exp) exp {
	f := e
	f.Args = nil
	for _, arg := range e.Args {
		f.Args = append(f.Args, folded(arg))
	}
	if f.Op == api.OpIf && nameless(f.Args[0]) {
		if v, fault := worth(f.Args[0], nil); fault == api.OK && v.Kind == api.KindTruth {
			return map[bool]exp{true: f.Args[1], false: f.Args[2]}[v.Truth]
		}
	}
	if nameless(f) {
		if v, fault := worth(f, nil); fault == api.OK {
			return constant(v)
		}
	}
	return f
}

func TestFold(t *testing.T) {
	for _, c := range []struct{ text, want string }{
		{"1", "1"}, {"x", "x"}, {`"a"`, `"a"`}, {"[]", "[]"}, {"[1, [x]]", "[1, [x]]"},
		{"(1 + 2)", "3"}, {"((1 + 2) * x)", "(3 * x)"}, {"(x * (1 + 2))", "(x * 3)"}, {"((x + 1) + 2)", "((x + 1) + 2)"}, {"(x + x)", "(x + x)"}, {"(0 * x)", "(0 * x)"},
		{"[(1 + 2), x, [(2 * 3)]]", "[3, x, [6]]"}, {"([1] + [2])", "[1, 2]"}, {"([[1]] + [(1 < 2)])", "[[1], true]"}, {"at([[1, 2], 3], 0)", "[1, 2]"}, {"len([1, x])", "len([1, x])"}, {"at([1, x], 0)", "at([1, x], 0)"},
		{"if(true, x, (1 / 0))", "x"}, {"if(false, (1 / 0), x)", "x"}, {"if(true, (1 + x), y)", "(1 + x)"}, {"if((1 < 2), (1 + 2), x)", "3"}, {"if((2 < 1), x, [(1 + 2), y])", "[3, y]"},
		{"if(x, (1 + 2), (2 + 3))", "if(x, 3, 5)"}, {"if(x, (1 / 0), y)", "if(x, (1 / 0), y)"}, {"if((x = x), 1, 2)", "if((x = x), 1, 2)"},
		{"if(1, (1 + 2), x)", "if(1, 3, x)"}, {"if((1 / 0), (1 + 2), x)", "if((1 / 0), 3, x)"}, {"if([], 1, 2)", "if([], 1, 2)"}, {`if("true", x, y)`, `if("true", x, y)`},
		{"if(true, (1 / 0), 2)", "(1 / 0)"}, {"if(false, 2, at([], (0 + 0)))", "at([], 0)"}, {"if(true, 1, (1 / 0))", "1"},
		{"if(if(true, true, x), y, z)", "y"}, {"if(if(false, x, (1 < 0)), y, (1 + 1))", "2"}, {"(if(true, 1, x) + 2)", "3"}, {"if(not(if(true, true, x)), y, [if(true, z, y)])", "[z]"},
		{"(1 / 0)", "(1 / 0)"}, {"((1 + 1) / (1 - 1))", "(2 / 0)"}, {"[(1 + 1), (1 / 0)]", "[2, (1 / 0)]"}, {"(x + ((1 + 2) / 0))", "(x + (3 / 0))"}, {"not((1 + 1))", "not(2)"},
		{"[[[[[[[]]]]]]]", "[[[[[[[]]]]]]]"}, {"[[[[[[[(1 + 1)]]]]]]]", "[[[[[[[2]]]]]]]"},
		{"len(\"abc\")", "3"}, {"floor(7/2)", "3"}, {"min(2, 1)", "1"}, {"max([1], [2])", "[2]"}, {"(not(true) or true)", "true"}, {"(1 = \"1\")", "false"}, {"(true and x)", "(true and x)"},
	} {
		if e, fault := expr.Fold(parse(t, c.text)); !is(e, fault, parse(t, c.want)) {
			t.Error(c.text, show(e), fault)
		}
	}
}

func TestFoldOfAll(t *testing.T) {
	changed, left := 0, 0
	for _, e := range append(append(good(), several(5000, false)...), several(3000, true)...) {
		want := folded(e)
		got, fault := expr.Fold(e)
		if !is(got, fault, want) {
			t.Error(show(e, got, want), fault)
		}
		if !identical(got, e) {
			changed++
		} else if count(e) > 5 {
			left++
		}
	}
	if changed < 1000 || left < 100 {
		t.Error(changed, left)
	}
}

func TestFoldOfTheLargest(t *testing.T) {
	one := fixed(whole(1))
	for _, e := range []exp{row(one, 99), row(name("x"), 99), nots(name("x"), 11), op(api.OpAdd, row(one, 48), row(one, 49))} {
		if got, fault := expr.Fold(e); !is(got, fault, folded(e)) {
			t.Error(show(e, got), fault)
		}
	}
}

func TestBind(t *testing.T) {
	for _, c := range []struct{ text, name, v, want string }{
		{"x", "x", "1", "1"}, {"x", "y", "1", "x"}, {"x", "x", "[]", "[]"}, {"x", "x", `[1, [true, "x"]]`, `[1, [true, "x"]]`}, {"(x + x)", "x", "2", "(2 + 2)"}, {"(x + y)", "y", `"x"`, `(x + "x")`},
		{"len(x)", "x", "[1, 2]", "len([1, 2])"}, {"if(x, xx, [x-1, not(x)])", "x", "true", "if(true, xx, [x-1, not(true)])"}, {`"x"`, "x", "1", `"x"`}, {"(and and or)", "and", "true", "(true and or)"}, {"not(not)", "not", "[[]]", "not([[]])"},
		{"(1 + 2)", "x", "1", "(1 + 2)"}, {"(x + (1 + 2))", "x", "1", "(1 + (1 + 2))"}, {"if(true, x, y)", "x", "1", "if(true, 1, y)"},
	} {
		e, fault := expr.Bind(parse(t, c.text), c.name, parseValue(t, c.v))
		if !is(e, fault, parse(t, c.want)) {
			t.Error(c.text, c.name, c.v, show(e), fault)
		}
	}
	bound, _ := expr.Bind(parse(t, "len(x)"), "x", parseValue(t, "[1, 2]"))
	if e, fault := expr.Fold(bound); !is(e, fault, fixed(whole(2))) {
		t.Error(show(e), fault)
	}
}

func TestErrorsOfBind(t *testing.T) {
	one := whole(1)
	for _, e := range []exp{name("x"), fixed(one), row(name("x"), 99), nots(name("x"), 11)} {
		for _, s := range []string{"", "true", "false", "X", "1", "a b", "-x", "x[0]", "\u00e4", long(41)} {
			for _, v := range []val{one, times(one, 99), {}} {
				if f, fault := expr.Bind(e, s, v); !none(f, fault, api.ErrBad) {
					t.Error(show(e, s, v, f), fault)
				}
			}
		}
		for _, v := range []val{{}, num(2, 4), str("\n"), list(val{}), times(one, 100), within(one, 6), endlessValue(), {Kind: api.KindTruth, Str: "a"}} {
			for _, s := range []string{"x", "y"} {
				if f, fault := expr.Bind(e, s, v); !none(f, fault, api.ErrBad) {
					t.Error(show(e, s, v, f), fault)
				}
			}
		}
	}
}

func TestSizesOfBind(t *testing.T) {
	one, x := whole(1), name("x")
	for _, c := range []struct {
		e    exp
		v    val
		want api.Errno
	}{
		{x, times(one, 99), api.OK},
		{row(x, 1), times(one, 98), api.OK},
		{row(x, 1), times(one, 99), api.ErrMany},
		{row(x, 3), times(one, 32), api.OK},
		{row(x, 3), times(one, 33), api.ErrMany},
		{row(x, 99), one, api.OK},
		{row(x, 99), list(), api.OK},
		{row(x, 99), times(one, 99), api.ErrMany},
		{row(x, 99), list(one), api.ErrMany},
		{row(name("y"), 99), times(one, 99), api.OK},
		{nots(x, 11), one, api.OK},
		{nots(x, 11), list(), api.OK},
		{nots(x, 11), list(one), api.ErrMany},
		{nots(x, 10), list(one), api.OK},
		{nots(x, 6), within(one, 5), api.OK},
		{nots(x, 7), within(one, 5), api.ErrMany},
		{nots(name("y"), 11), within(one, 5), api.OK},
	} {
		e, fault := expr.Bind(c.e, "x", c.v)
		if fault != c.want || fault == api.OK && !identical(e, replaced(c.e, "x", c.v)) || fault != api.OK && !none(e, fault, c.want) {
			t.Error(show(c.e, c.v, e), fault)
		}
	}
}

// replaced returns an expression with a name bound, found without the program.
func replaced(e exp, name string, v val) exp {
	if e.Op == api.OpName && e.Name == name {
		return constant(v)
	}
	f := e
	f.Args = nil
	for _, arg := range e.Args {
		f.Args = append(f.Args, replaced(arg, name, v))
	}
	return f
}

func TestBindOfAll(t *testing.T) {
	faults := 0
	for _, e := range append(good(), several(300, false)...) {
		for _, s := range []string{"x", "n", "l", "and"} {
			for _, v := range someValues() {
				want := replaced(e, s, v)
				got, fault := expr.Bind(e, s, v)
				if count(want) > 100 || depth(want) > 12 {
					faults++
					if !none(got, fault, api.ErrMany) {
						t.Error(show(e, s, v, got), fault)
					}
				} else if !is(got, fault, want) {
					t.Error(show(e, s, v, got), fault)
				}
			}
		}
	}
	if faults < 100 {
		t.Error(faults)
	}
}

func TestSampleHasNamesInAllPlaces(t *testing.T) {
	seen := map[string]bool{}
	for _, e := range several(5000, false) {
		names, _ := expr.Names(e)
		seen[strings.Join(names, " ")] = true
	}
	if len(seen) < 20 {
		t.Error(seen)
	}
}
