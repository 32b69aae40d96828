package expr_test

import (
	"slices"
	"strings"
	"testing"

	"gambrel/api"
	"gambrel/expr"
)

func TestInputsAreWhatTheySay(t *testing.T) {
	valid := good()
	for i, e := range valid {
		if count(e) > 100 || depth(e) > 12 {
			t.Error(show(e))
		}
		for _, f := range valid[:i] {
			if identical(e, f) {
				t.Error(show(e), "is there twice")
			}
		}
	}
	for _, e := range bad() {
		if count(e) > 100 || depth(e) > 12 {
			t.Error(show(e))
		}
	}
}

func TestCheck(t *testing.T) {
	for _, e := range append(good(), several(1000, false)...) {
		if fault := expr.Check(e); fault != api.OK {
			t.Error(show(e), fault)
		}
	}
	for _, e := range bad() {
		if fault := expr.Check(e); fault != api.ErrBad {
			t.Error(show(e), fault)
		}
	}
	for _, e := range excessive() {
		if fault := expr.Check(e); fault != api.ErrMany {
			t.Error(show(e), fault)
		}
	}
}

func TestLimitsOfCheck(t *testing.T) {
	one := fixed(whole(1))
	for _, c := range []struct {
		e    exp
		want api.Errno
	}{
		{row(one, 99), api.OK},
		{row(one, 100), api.ErrMany},
		{op(api.OpList, row(one, 97), one), api.OK},
		{op(api.OpList, row(one, 97), one, one), api.ErrMany},
		{nots(one, 11), api.OK},
		{nots(one, 12), api.ErrMany},
		{op(api.OpAdd, one, nots(one, 10)), api.OK},
		{op(api.OpAdd, one, nots(one, 11)), api.ErrMany},
		{op(api.OpAdd, nots(one, 11), one), api.ErrMany},
		{nots(op(api.OpList), 11), api.OK},
		{nots(op(api.OpList), 12), api.ErrMany},
		// The parts of a value are none of the expression.
		{op(api.OpList, slices.Repeat([]exp{fixed(times(one.Value, 50))}, 50)...), api.ErrBad},
		{nots(fixed(within(one.Value, 5)), 11), api.ErrBad},
		// The parts of what has too many Args are parts.
		{op(api.OpNot, row(one, 99).Args...), api.ErrBad},
		{op(api.OpNot, row(one, 100).Args...), api.ErrMany},
		{op(0, row(one, 99).Args...), api.ErrBad},
		{op(0, row(one, 100).Args...), api.ErrMany},
		{exp{Op: api.OpValue, Value: one.Value, Args: []exp{nots(one, 11)}}, api.ErrMany},
		{exp{Op: api.OpValue, Value: one.Value, Args: []exp{nots(one, 10)}}, api.ErrBad},
		{exp{Op: api.OpValue, Value: one.Value, Args: []exp{}}, api.OK},
		{exp{Op: api.OpName, Name: "x", Args: make([]exp, 0, 10)}, api.OK},
		{exp{Op: api.OpName, Name: "x", Value: val{List: []val{}}}, api.OK},
		{exp{Op: api.OpList, Value: val{List: []val{}}, Args: []exp{}}, api.OK},
	} {
		if fault := expr.Check(c.e); fault != c.want {
			t.Error(show(c.e), fault)
		}
	}
}

func TestCheckOfAllOpsWithAllNumbersOfArgs(t *testing.T) {
	for code := range 256 {
		for n := range 6 {
			for _, arg := range []exp{fixed(whole(1)), name("x"), op(api.OpList)} {
				e := op(uint8(code), slices.Repeat([]exp{arg}, n)...)
				switch e.Op {
				case api.OpValue:
					e.Value = truth(true)
				case api.OpName:
					e.Name = "y"
				}
				arity, known := arities[e.Op]
				want := api.ErrBad
				if known && (arity == n || arity < 0) {
					want = api.OK
				}
				if fault := expr.Check(e); fault != want {
					t.Error(show(e), fault)
				}
			}
		}
	}
}

func TestCheckOfNames(t *testing.T) {
	for _, s := range someNames() {
		if fault := expr.Check(name(s)); fault != api.OK {
			t.Error(s, fault)
		}
	}
	for _, s := range []string{"", "true", "false", "True", "0", "a/b", "a[0]", "x\n", "-a", long(41)} {
		if fault := expr.Check(name(s)); fault != api.ErrBad {
			t.Error(s, fault)
		}
	}
}

func TestNames(t *testing.T) {
	for _, c := range []struct{ text, want string }{
		{"1", ""}, {`"x"`, ""}, {"[]", ""}, {"not(true)", ""}, {"(1 + 2)", ""},
		{"x", "x"}, {"[x, x, x]", "x"}, {"((b + a) * b)", "a b"}, {"if(c, b, a)", "a b c"},
		{"[b, aa, a0, a-, a, a-b, ab, z]", "a a- a-b a0 aa ab b z"}, {"(and and or)", "and or"}, {"floor(floor)", "floor"}, {`["y", [x, not(len(z))]]`, "x z"},
		{"if(true, x, y)", "x y"}, {"if(false, (1 / 0), at(k, \"n\"))", "k"},
	} {
		names, fault := expr.Names(parse(t, c.text))
		if fault != api.OK || strings.Join(names, " ") != c.want {
			t.Error(c.text, names, fault)
		}
	}
	if names, fault := expr.Names(row(name("x"), 99)); fault != api.OK || !slices.Equal(names, []string{"x"}) {
		t.Error(names, fault)
	}
}

func TestNamesOfAll(t *testing.T) {
	for _, e := range append(good(), several(1000, false)...) {
		var want []string
		var walk func(e exp)
		walk = func(e exp) {
			if e.Op == api.OpName && !slices.Contains(want, e.Name) {
				want = append(want, e.Name)
			}
			for _, arg := range e.Args {
				walk(arg)
			}
		}
		walk(e)
		slices.Sort(want)
		if names, fault := expr.Names(e); fault != api.OK || !slices.Equal(names, want) {
			t.Error(show(e), names, fault)
		}
	}
}

// invalid returns expressions that are not valid, with their errors.
func invalid() map[api.Errno][]exp {
	return map[api.Errno][]exp{api.ErrBad: bad(), api.ErrMany: excessive()}
}

// The error of the expression comes before all others.
func TestInvalidExpressions(t *testing.T) {
	many := slices.Repeat([]api.Bind{bind("x", whole(1))}, api.MaxBinds+1)
	for want, all := range invalid() {
		for _, e := range all {
			for _, env := range [][]api.Bind{nil, {bind("x", whole(1))}, {bind("X", whole(1))}, {bind("x", val{})}, many} {
				if v, fault := expr.Eval(e, env); !noValue(v, fault, want) {
					t.Error("Eval", show(e, v), fault)
				}
			}
			if names, fault := expr.Names(e); names != nil || fault != want {
				t.Error("Names", show(e), names, fault)
			}
			for _, b := range []api.Bind{bind("x", whole(1)), bind("X", whole(1)), bind("true", whole(1)), bind("x", val{}), bind("x", times(whole(1), 100))} {
				if f, fault := expr.Bind(e, b.Name, b.Value); !none(f, fault, want) {
					t.Error("Bind", show(e, f), fault)
				}
			}
			if f, fault := expr.Fold(e); !none(f, fault, want) {
				t.Error("Fold", show(e, f), fault)
			}
			if s, fault := expr.Text(e); s != "" || fault != want {
				t.Error("Text", show(e), s, fault)
			}
		}
	}
}
