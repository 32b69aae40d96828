package expr_test

import (
	"fmt"
	"slices"
	"testing"

	"gambrel/api"
	"gambrel/expr"
	"gambrel/ratio"
	"gambrel/value"
)

// result returns the value of an operation on values, found without the program, but for the layers below.
func result(code uint8, args []val) (val, api.Errno) {
	kinds := ""
	for _, arg := range args {
		kinds += string("-ntsl"[arg.Kind])
	}
	number := func(r api.Ratio, fault api.Errno) (val, api.Errno) {
		if kinds[0] != 'n' || kinds[len(kinds)-1] != 'n' {
			return val{}, api.ErrKind
		}
		return want(val{Kind: api.KindNumber, Num: r}, fault)
	}
	decided := func(b bool) (val, api.Errno) {
		if kinds != "tt" && (kinds != "t" || code != api.OpNot) {
			return val{}, api.ErrKind
		}
		return truth(b), api.OK
	}
	switch code {
	case api.OpAdd:
		return value.Add(args[0], args[1])
	case api.OpSub:
		return number(ratio.Sub(args[0].Num, args[1].Num))
	case api.OpMul:
		return number(ratio.Mul(args[0].Num, args[1].Num))
	case api.OpDiv:
		return number(ratio.Div(args[0].Num, args[1].Num))
	case api.OpFloor:
		n, fault := ratio.Floor(args[0].Num)
		return number(api.Ratio{Num: n, Den: 1}, fault)
	case api.OpAnd:
		return decided(args[0].Truth && args[1].Truth)
	case api.OpOr:
		return decided(args[0].Truth || args[1].Truth)
	case api.OpNot:
		return decided(!args[0].Truth)
	case api.OpSame:
		return truth(identicalValues(args[0], args[1])), api.OK
	case api.OpLess, api.OpMin, api.OpMax:
		order, fault := value.Compare(args[0], args[1])
		pick := map[bool]val{true: args[0], false: args[1]}
		picks := map[uint8]val{api.OpLess: truth(order < 0), api.OpMin: pick[order <= 0], api.OpMax: pick[order >= 0]}
		return want(picks[code], fault)
	case api.OpLen:
		n, fault := value.Len(args[0])
		return want(whole(int64(n)), fault)
	case api.OpAt:
		return resultAt(kinds, args[0], args[1].Num)
	}
	v := list(args...)
	return want(v, value.Check(v))
}

func resultAt(kinds string, v val, at api.Ratio) (val, api.Errno) {
	switch {
	case kinds != "sn" && kinds != "ln":
		return val{}, api.ErrKind
	case at.Den > 1 || at.Num < 0 || at.Num >= int64(len(v.Str)+len(v.List)):
		return val{}, api.ErrArg
	case kinds == "sn":
		return str(string(v.Str[at.Num])), api.OK
	}
	return v.List[at.Num], api.OK
}

func want(v val, fault api.Errno) (val, api.Errno) {
	if fault != api.OK {
		return val{}, fault
	}
	return v, api.OK
}

// worth returns the value of a valid expression, found without the program.
func worth(e exp, env []api.Bind) (val, api.Errno) {
	switch e.Op {
	case api.OpValue:
		return e.Value, api.OK
	case api.OpName:
		at := slices.IndexFunc(env, func(b api.Bind) bool { return b.Name == e.Name })
		if at < 0 {
			return val{}, api.ErrNone
		}
		return env[at].Value, api.OK
	}
	var args []val
	for i, arg := range e.Args {
		if e.Op == api.OpIf && i > 0 && (args[0].Kind != api.KindTruth || args[0].Truth != (i == 1)) {
			args = append(args, val{})
			continue
		}
		v, fault := worth(arg, env)
		if fault != api.OK {
			return val{}, fault
		}
		args = append(args, v)
	}
	if e.Op != api.OpIf {
		return result(e.Op, args)
	}
	if args[0].Kind != api.KindTruth {
		return val{}, api.ErrKind
	}
	if args[0].Truth {
		return args[1], api.OK
	}
	return args[2], api.OK
}

func TestEval(t *testing.T) {
	env := []api.Bind{bind("x", num(3, 2)), bind("l", list(whole(5), str("b"))), bind("t", truth(true)), bind("s", str("abc")), bind("x", whole(7))}
	for _, c := range []struct{ text, want string }{
		{"1", "1"}, {"-1/2", "-1/2"}, {"true", "true"}, {"false", "false"}, {`"a\"b"`, `"a\"b"`}, {"[]", "[]"}, {"[1, [x, t], s]", `[1, [3/2, true], "abc"]`},
		{"x", "3/2"}, {"l", `[5, "b"]`}, {"(x + 1/2)", "2"}, {"(x - 1/2)", "1"}, {"(1/2 - x)", "-1"}, {"(x * 2)", "3"}, {"(x / 2)", "3/4"}, {"(2 / x)", "4/3"},
		{`("a" + "b")`, `"ab"`}, {"(l + [1])", `[5, "b", 1]`}, {"([1] + l)", `[1, 5, "b"]`},
		{"(1 < 2)", "true"}, {"(2 < 1)", "false"}, {"(1 < 1)", "false"}, {`("a" < "b")`, "true"}, {"(false < true)", "true"}, {"([1] < [1, 0])", "true"},
		{"(1 = 1)", "true"}, {"(1 = 2)", "false"}, {`(1 = "1")`, "false"}, {"([] = [])", "true"}, {"([1] = [true])", "false"}, {"(l = [5, \"b\"])", "true"}, {"(t = 1)", "false"},
		{"(true and true)", "true"}, {"(true and false)", "false"}, {"(false and true)", "false"}, {"(false and false)", "false"},
		{"(true or true)", "true"}, {"(true or false)", "true"}, {"(false or true)", "true"}, {"(false or false)", "false"},
		{"not(true)", "false"}, {"not(false)", "true"},
		{"if(true, 1, 2)", "1"}, {"if(false, 1, 2)", "2"}, {"if((x < 2), s, l)", `"abc"`},
		{"min(1, 2)", "1"}, {"min(2, 1)", "1"}, {"max(1, 2)", "2"}, {"max(2, 1)", "2"}, {"min(1, 1)", "1"}, {"max(1, 1)", "1"}, {`max("a", "b")`, `"b"`}, {"min(true, false)", "false"}, {"max([1], [])", "[1]"},
		{"floor(7/2)", "3"}, {"floor(-7/2)", "-4"}, {"floor(4)", "4"}, {"floor(x)", "1"}, {"floor(-1000000000)", "-1000000000"},
		{"len(s)", "3"}, {"len(l)", "2"}, {"len([])", "0"}, {`len("")`, "0"},
		{"at(s, 0)", `"a"`}, {"at(s, 2)", `"c"`}, {"at(l, 1)", `"b"`}, {"at([[1]], 0)", "[1]"}, {"at(s, (x * 4/3))", `"c"`},
		{`if((1 < 0), at([], 0), "ok")`, `"ok"`},
	} {
		if v, fault := expr.Eval(parse(t, c.text), env); !hasValue(v, fault, parseValue(t, c.want)) {
			t.Error(c.text, show(v), fault)
		}
	}
}

func TestErrorsOfEval(t *testing.T) {
	env := []api.Bind{bind("x", num(3, 2)), bind("l", list(whole(5))), bind("t", truth(true)), bind("big", whole(api.MaxRatio)), bind("s", str(long(31))), bind("many", times(whole(1), 50)), bind("deep", within(list(), 5))}
	for _, c := range []struct {
		text string
		want api.Errno
	}{
		{"y", api.ErrNone}, {"[1, y]", api.ErrNone}, {"true-1", api.ErrNone}, {"xx", api.ErrNone},
		{"(1 + true)", api.ErrKind}, {"(true + true)", api.ErrKind}, {`(1 + "1")`, api.ErrKind}, {"(l + 1)", api.ErrKind}, {"(big + 1)", api.ErrRange}, {"(s + s)", api.ErrMany}, {"(many + many)", api.ErrMany},
		{`(1 - "1")`, api.ErrKind}, {"(true - 1)", api.ErrKind}, {"(l - l)", api.ErrKind}, {`("a" * 1)`, api.ErrKind}, {"(1 * true)", api.ErrKind}, {"(1 / l)", api.ErrKind}, {`("1" / 1)`, api.ErrKind}, {`("1" / 0)`, api.ErrKind},
		{"(-2 - big)", api.ErrRange}, {"(big * 2)", api.ErrRange}, {"(1/2 / big)", api.ErrRange}, {"(1 / 0)", api.ErrZero}, {"(0 / 0)", api.ErrZero},
		{`(1 < "1")`, api.ErrKind}, {"([1] < [true])", api.ErrKind}, {"min(1, true)", api.ErrKind}, {"max([1], [[]])", api.ErrKind}, {`min("", [])`, api.ErrKind},
		{"(1 and true)", api.ErrKind}, {"(true and 1)", api.ErrKind}, {"(false and 1)", api.ErrKind}, {"(true or 1)", api.ErrKind}, {`("true" or true)`, api.ErrKind}, {"not(1)", api.ErrKind}, {`not("true")`, api.ErrKind}, {"not([])", api.ErrKind},
		{"(false and y)", api.ErrNone}, {"(true or y)", api.ErrNone}, {"(true or (1 / 0))", api.ErrZero},
		{"if(1, 1, 2)", api.ErrKind}, {`if("true", 1, 2)`, api.ErrKind}, {"if([], 1, 2)", api.ErrKind}, {"if(y, 1, 2)", api.ErrNone}, {"if(true, y, 2)", api.ErrNone}, {"if(false, 1, y)", api.ErrNone},
		{"if(1, y, y)", api.ErrKind}, {"if(x, (1 / 0), at(l, 1))", api.ErrKind},
		{`floor("1")`, api.ErrKind}, {"floor(true)", api.ErrKind}, {"floor([1])", api.ErrKind}, {"len(1)", api.ErrKind}, {"len(true)", api.ErrKind},
		{"at(l, 1)", api.ErrArg}, {"at(l, -1)", api.ErrArg}, {"at([], 0)", api.ErrArg}, {`at("", 0)`, api.ErrArg}, {"at(l, 1/2)", api.ErrArg}, {"at(l, -1/2)", api.ErrArg}, {"at(l, 1/1000000000)", api.ErrArg}, {"at(l, x)", api.ErrArg}, {"at(l, big)", api.ErrArg}, {`at("ab", 3/2)`, api.ErrArg},
		{"at(1, 0)", api.ErrKind}, {"at(true, 0)", api.ErrKind}, {"at(l, true)", api.ErrKind}, {`at(l, "0")`, api.ErrKind}, {"at(l, l)", api.ErrKind}, {"at(1, 1/2)", api.ErrKind}, {"at([], true)", api.ErrKind}, {"at(1, -1)", api.ErrKind},
		{"[[deep]]", api.ErrMany}, {"[[[[[[[]]]]]]]", api.ErrMany}, {"[many, many]", api.ErrMany},
	} {
		if v, fault := expr.Eval(parse(t, c.text), env); !noValue(v, fault, c.want) {
			t.Error(c.text, show(v), fault)
		}
	}
}

func TestValuesThatAreTooLarge(t *testing.T) {
	env := []api.Bind{bind("fifty", times(whole(1), 50)), bind("flat", times(whole(1), 49)), bind("most", times(whole(1), 99)), bind("deep", within(list(), 4)), bind("deepest", within(list(), 5)), bind("half", str(long(30))), bind("more", str(long(31)))}
	for _, c := range []struct {
		text string
		want api.Errno
	}{
		{"(half + half)", api.OK}, {"(half + more)", api.ErrMany}, {"(flat + fifty)", api.OK}, {"(fifty + fifty)", api.ErrMany}, {"(most + [])", api.OK}, {"(most + [1])", api.ErrMany},
		{"[deep]", api.OK}, {"[deepest]", api.ErrMany}, {"[1, deepest]", api.ErrMany}, {"[[deep]]", api.ErrMany}, {"[most]", api.ErrMany}, {"[flat, flat]", api.ErrMany}, {"[flat, 1]", api.OK}, {"[flat, fifty]", api.ErrMany},
		{"([deep] + [deep])", api.OK}, {"([flat] + [flat])", api.ErrMany}, {"len([flat, flat])", api.ErrMany}, {"([deepest] = 1)", api.ErrMany},
		{"[deepest, y]", api.ErrNone}, {"[[deepest], y]", api.ErrMany},
	} {
		v, fault := expr.Eval(parse(t, c.text), env)
		if fault != c.want || c.want != api.OK && !noValue(v, fault, c.want) {
			t.Error(c.text, show(v), fault)
		}
	}
}

// The Args from left to right, their errors before those of kinds, and these before those of functions.
func TestOrderOfErrors(t *testing.T) {
	zero, none, kind, arg := "(1 / 0)", "y", "not(1)", "at([], 0)"
	faults := map[string]api.Errno{zero: api.ErrZero, none: api.ErrNone, kind: api.ErrKind, arg: api.ErrArg}
	for a, first := range faults {
		for b := range faults {
			for _, form := range []string{"(%s + %s)", "(%s - %s)", "(%s * %s)", "(%s / %s)", "(%s < %s)", "(%s = %s)", "(%s and %s)", "(%s or %s)", "if(%s, 1, %s)", "min(%s, %s)", "max(%s, %s)", "at(%s, %s)", "[%s, %s]", "if(true, %s, %s)", "if(false, 1, [%s, %s])"} {
				text := fmt.Sprintf(form, a, b)
				if v, fault := expr.Eval(parse(t, text), nil); !noValue(v, fault, first) {
					t.Error(text, show(v), fault)
				}
			}
		}
		for _, form := range []string{"(true + %s)", "(true - %s)", `("a" * %s)`, "([] / %s)", "(1 < %s)", "(1 = %s)", "(1 and %s)", "(1 or %s)", "(true or %s)", "(false and %s)", "not(%s)", "if(false, 1, %s)", "if(true, %s, 1)", "min(1, %s)", "max(1, %s)", "floor(%s)", "len(%s)", "at(1, %s)", "at([], %s)", "[1, [2, %s], y]"} {
			text := fmt.Sprintf(form, a)
			if v, fault := expr.Eval(parse(t, text), nil); !noValue(v, fault, first) {
				t.Error(text, show(v), fault)
			}
		}
	}
}

func TestArgsOfIfThatAreNotEvaluated(t *testing.T) {
	for _, c := range []struct {
		text string
		want val
	}{
		{"if(true, 1, (1 / 0))", whole(1)}, {"if(false, (1 / 0), 2)", whole(2)}, {"if(true, 1, y)", whole(1)}, {"if(false, y, 2)", whole(2)},
		{"if((1 = 1), 1, not(1))", whole(1)}, {"if(not(true), at([], 0), [y, if(true, 3, y)])", val{}},
	} {
		v, fault := expr.Eval(parse(t, c.text), nil)
		if c.want.Kind != 0 && !hasValue(v, fault, c.want) || c.want.Kind == 0 && !noValue(v, fault, api.ErrNone) {
			t.Error(c.text, show(v), fault)
		}
	}
}

func TestEvalOfAllOperations(t *testing.T) {
	seen := map[string]int{}
	try := func(code uint8, args ...val) {
		e := op(code)
		var env []api.Bind
		for _, arg := range args {
			s := fmt.Sprint("v", len(env))
			e.Args = append(e.Args, name(s))
			env = append(env, bind(s, arg))
		}
		wanted, fault := worth(e, env)
		v, got := expr.Eval(e, env)
		if got != fault || !identicalValues(v, wanted) {
			t.Error(code, show(v, wanted), got, fault)
		}
		seen[fmt.Sprint(code, got)]++
	}
	for code, arity := range arities {
		for _, a := range someValues() {
			if arity == 1 || arity < 0 {
				try(code, a)
			}
			for _, b := range someValues() {
				if arity == 2 || arity < 0 {
					try(code, a, b)
				}
				if arity == 3 {
					try(code, a, b, whole(9))
					try(code, a, whole(9), b)
				}
			}
		}
	}
	for code := api.OpAdd; code <= api.OpList; code++ {
		if seen[fmt.Sprint(code, api.OK)] < 2 {
			t.Error(code, seen)
		}
	}
}

func TestEvalOfSeveral(t *testing.T) {
	seen := map[api.Errno]int{}
	for _, env := range environments() {
		for _, e := range append(several(5000, false), good()...) {
			wanted, fault := worth(e, env)
			v, got := expr.Eval(e, env)
			if got != fault || !identicalValues(v, wanted) {
				t.Error(show(e, v, wanted), got, fault)
			}
			seen[got]++
		}
	}
	for _, fault := range []api.Errno{api.OK, api.ErrArg, api.ErrMany, api.ErrNone, api.ErrRange, api.ErrZero, api.ErrKind} {
		if seen[fault] < 20 {
			t.Error(fault, seen)
		}
	}
}

func TestBindsOfEval(t *testing.T) {
	x, one := name("x"), whole(1)
	full := slices.Repeat([]api.Bind{bind("y", truth(true))}, api.MaxBinds-1)
	for _, c := range []struct {
		e    exp
		env  []api.Bind
		want val
	}{
		{x, []api.Bind{bind("x", one), bind("x", whole(2))}, one},
		{x, []api.Bind{bind("y", whole(2)), bind("x", one), bind("x", whole(3))}, one},
		{x, append(slices.Clone(full), bind("x", one)), one},
		{x, append([]api.Bind{bind("x", one)}, full...), one},
		{x, []api.Bind{bind("x", times(one, 99))}, times(one, 99)},
		{x, []api.Bind{bind("x", within(one, 5))}, within(one, 5)},
		// These are names, too, but stand in no expression.
		{fixed(truth(true)), []api.Bind{bind("true", one), bind("false", one)}, truth(true)},
		{name("not"), []api.Bind{bind("not", one)}, one},
	} {
		if v, fault := expr.Eval(c.e, c.env); !hasValue(v, fault, c.want) {
			t.Error(show(c.e, v), len(c.env), fault)
		}
	}
}

func TestInvalidBindsOfEval(t *testing.T) {
	one := whole(1)
	full := slices.Repeat([]api.Bind{bind("y", truth(true))}, api.MaxBinds-1)
	unbound, zero := name("z"), op(api.OpDiv, fixed(one), fixed(whole(0)))
	for _, e := range []exp{fixed(one), name("x"), unbound, zero} {
		for _, c := range []struct {
			env  []api.Bind
			want api.Errno
		}{
			{append(slices.Clone(full), bind("x", one), bind("x", one)), api.ErrMany},
			{append([]api.Bind{bind("X", one), bind("x", val{})}, full...), api.ErrMany},
			{append(slices.Clone(full), bind("x", val{})), api.ErrBad},
			{slices.Repeat([]api.Bind{{}}, api.MaxBinds), api.ErrBad},
			{slices.Repeat([]api.Bind{{}}, 100000), api.ErrMany},
			{[]api.Bind{{}}, api.ErrBad},
			{[]api.Bind{bind("", one)}, api.ErrBad},
			{[]api.Bind{bind("X", one)}, api.ErrBad},
			{[]api.Bind{bind("1", one)}, api.ErrBad},
			{[]api.Bind{bind("x", one), bind("a b", one)}, api.ErrBad},
			{[]api.Bind{bind(long(api.MaxName+1), one)}, api.ErrBad},
			{[]api.Bind{bind("x", one), bind("x", num(2, 4))}, api.ErrBad},
			{[]api.Bind{bind("x", str("\n"))}, api.ErrBad},
			{[]api.Bind{bind("x", times(one, 100))}, api.ErrBad},
			{[]api.Bind{bind("x", within(one, 6))}, api.ErrBad},
			{[]api.Bind{bind("x", endlessValue())}, api.ErrBad},
		} {
			if v, fault := expr.Eval(e, c.env); !noValue(v, fault, c.want) {
				t.Error(show(e, v), len(c.env), fault)
			}
		}
	}
}
