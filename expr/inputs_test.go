package expr_test

import (
	"fmt"
	"math/rand"
	"slices"
	"strings"
	"testing"

	"gambrel/api"
	"gambrel/expr"
	"gambrel/value"
)

type (
	exp = api.Expr
	val = api.Value
)

func num(n, d int64) val {
	return val{Kind: api.KindNumber, Num: api.Ratio{Num: n, Den: d}}
}

func whole(n int64) val {
	return num(n, 1)
}

func truth(b bool) val {
	return val{Kind: api.KindTruth, Truth: b}
}

func str(s string) val {
	return val{Kind: api.KindString, Str: s}
}

func list(elements ...val) val {
	return val{Kind: api.KindList, List: elements}
}

// times returns a list of n times the same element.
func times(element val, n int) val {
	return list(slices.Repeat([]val{element}, n)...)
}

// within puts v into so many lists, one in the other.
func within(v val, lists int) val {
	for range lists {
		v = list(v)
	}
	return v
}

func long(n int) string {
	return strings.Repeat("x", n)
}

func name(s string) exp {
	return exp{Op: api.OpName, Name: s}
}

func op(code uint8, args ...exp) exp {
	return exp{Op: code, Args: args}
}

// fixed returns the expression of a value that is no list; of a list, one that is not valid.
func fixed(v val) exp {
	return exp{Op: api.OpValue, Value: v}
}

// constant returns the expression of a value, found without the program.
func constant(v val) exp {
	if v.Kind != api.KindList {
		return fixed(v)
	}
	e := op(api.OpList)
	for _, element := range v.List {
		e.Args = append(e.Args, constant(element))
	}
	return e
}

func bind(name string, v val) api.Bind {
	return api.Bind{Name: name, Value: v}
}

// nots puts e into so many operations, one in the other.
func nots(e exp, n int) exp {
	for range n {
		e = op(api.OpNot, e)
	}
	return e
}

// row returns a list of n times the same expression.
func row(e exp, n int) exp {
	return op(api.OpList, slices.Repeat([]exp{e}, n)...)
}

// endless returns an expression that contains itself.
func endless() exp {
	e := op(api.OpList, fixed(whole(1)), exp{})
	e.Args[1] = e
	return e
}

// endlessValue returns a list that contains itself.
func endlessValue() val {
	v := list(whole(1), val{})
	v.List[1] = v
	return v
}

// arities has how many Args an operation has, -1 for any number.
var arities = map[uint8]int{1: 0, 2: 0, 3: 2, 4: 2, 5: 2, 6: 2, 7: 2, 8: 2, 9: 2, 10: 2, 11: 1, 12: 3, 13: 2, 14: 2, 15: 1, 16: 1, 17: 2, 18: -1}

// count returns the number of parts of an expression, found without the program.
func count(e exp) int {
	n := 1
	for _, arg := range e.Args {
		n += count(arg)
	}
	return n
}

// depth returns the depth of an expression, found without the program.
func depth(e exp) int {
	n := 1
	for _, arg := range e.Args {
		n = max(n, depth(arg)+1)
	}
	return n
}

// identical compares without the program.
func identical(a, b exp) bool {
	return a.Op == b.Op && a.Name == b.Name && identicalValues(a.Value, b.Value) && slices.EqualFunc(a.Args, b.Args, identical)
}

func identicalValues(a, b val) bool {
	return a.Kind == b.Kind && a.Num == b.Num && a.Truth == b.Truth && a.Str == b.Str && slices.EqualFunc(a.List, b.List, identicalValues)
}

// is reports whether there is no error, and two expressions are identical.
func is(got exp, e api.Errno, want exp) bool {
	return e == api.OK && identical(got, want)
}

// none reports whether there is just an error.
func none(got exp, e, want api.Errno) bool {
	return e == want && identical(got, exp{})
}

// hasValue reports whether there is no error, and two values are identical.
func hasValue(got val, e api.Errno, want val) bool {
	return e == api.OK && identicalValues(got, want)
}

// noValue reports whether there is just an error.
func noValue(got val, e, want api.Errno) bool {
	return e == want && identicalValues(got, val{})
}

// show writes anything for messages, of large ones only a part, as an expression may contain itself.
func show(all ...any) string {
	s := ""
	for _, x := range all {
		switch x := x.(type) {
		case exp:
			s += sketch(x, 8)
		case val:
			s += sketchValue(x, 4)
		default:
			s += fmt.Sprintf(" %.100v", x)
		}
	}
	return fmt.Sprintf("%.400s", s)
}

func sketch(e exp, levels int) string {
	s := fmt.Sprintf(" {%d %.50s", e.Op, e.Name)
	if e.Value.Kind != 0 {
		s += sketchValue(e.Value, 4)
	}
	for _, arg := range e.Args[:min(len(e.Args), 12)] {
		if levels > 0 {
			s += sketch(arg, levels-1)
		}
	}
	return s + "}"
}

func sketchValue(v val, levels int) string {
	s := fmt.Sprintf(" <%d %d/%d %v %.20q", v.Kind, v.Num.Num, v.Num.Den, v.Truth, v.Str)
	for _, element := range v.List[:min(len(v.List), 12)] {
		if levels > 0 {
			s += sketchValue(element, levels-1)
		}
	}
	return s + ">"
}

// parse returns the expression with a text.
func parse(t *testing.T, s string) exp {
	t.Helper()
	e, fault := expr.Parse(s)
	if fault != api.OK {
		t.Fatal(s, fault)
	}
	return e
}

// parseValue returns the value with a text.
func parseValue(t *testing.T, s string) val {
	t.Helper()
	v, fault := value.Parse(s)
	if fault != api.OK {
		t.Fatal(s, fault)
	}
	return v
}

// scalars returns values that are no lists, all of them different.
func scalars() []val {
	return []val{
		whole(0), whole(1), whole(-1), whole(2), whole(3), num(1, 2), num(-7, 2), num(1, api.MaxRatio), whole(api.MaxRatio), whole(-api.MaxRatio),
		truth(false), truth(true),
		str(""), str("a"), str("b"), str("ab"), str("1"), str("true"), str(`"`), str(`\`), str(`a"b\`), str(", "), str(")"), str("(x + 1)"), str(" ~"), str(long(api.MaxString)),
	}
}

// someValues returns valid values, all of them different.
func someValues() []val {
	return append(scalars(),
		list(), list(list()), list(whole(1)), list(whole(1), whole(2)), list(whole(2)), list(str("a")), list(truth(true)), list(list(whole(1)), str("x")),
		times(whole(1), 49), times(whole(1), 50), times(whole(1), 99), within(whole(1), 5), within(list(), 5), within(list(), 4),
	)
}

// someNames returns names, all of them different.
func someNames() []string {
	return []string{"x", "y", "a", "a-", "a0", "aa", "a-1", "b", "not", "if", "min", "max", "floor", "len", "at", "and", "or", "truex", "tru", "t", "true-1", "false0", long(api.MaxName), "x" + strings.Repeat("-", api.MaxName-1)}
}

// good returns valid expressions, all of them different: ordinary ones, and ones at the limits.
func good() []exp {
	var all []exp
	for _, v := range scalars() {
		all = append(all, fixed(v))
	}
	for _, s := range someNames() {
		all = append(all, name(s))
	}
	few := []exp{fixed(whole(1)), fixed(num(-1, 2)), fixed(truth(true)), fixed(str("a, b")), name("x"), name("and"), op(api.OpList), op(api.OpNot, name("x")), op(api.OpSub, name("y"), fixed(whole(-1)))}
	for code, arity := range arities {
		switch arity {
		case 1:
			for _, a := range few {
				all = append(all, op(code, a))
			}
		case 2:
			for _, a := range few {
				for _, b := range few {
					all = append(all, op(code, a, b))
				}
			}
		case 3:
			for _, a := range few {
				all = append(all, op(code, a, few[0], few[4]), op(code, few[1], a, few[5]), op(code, few[4], few[2], a))
			}
		}
	}
	for n := 1; n <= len(few); n++ {
		all = append(all, op(api.OpList, few[:n]...))
	}
	slices.SortStableFunc(all, func(a, b exp) int { return int(a.Op) - int(b.Op) })
	all = slices.CompactFunc(all, identical)
	return append(all, largest()...)
}

// largest returns valid expressions at the limits.
func largest() []exp {
	one := fixed(whole(1))
	return []exp{
		row(one, api.MaxPieces-1), row(op(api.OpList), api.MaxPieces-1), row(nots(name("x"), 1), 49), row(nots(name("x"), 2), 33), op(api.OpMin, row(one, 48), row(name("a"), 49)),
		nots(one, api.MaxDeep-1), nots(name("x"), api.MaxDeep-1), nots(op(api.OpList), api.MaxDeep-1), nots(row(one, api.MaxPieces-api.MaxDeep+1), api.MaxDeep-2),
		op(api.OpIf, one, one, nots(one, api.MaxDeep-2)), op(api.OpAdd, nots(one, api.MaxDeep-2), nots(one, api.MaxDeep-2)),
	}
}

// bad returns expressions that are small enough, but not valid.
func bad() []exp {
	one := fixed(whole(1))
	all := []exp{
		{}, {Name: "x"}, {Value: whole(1)}, op(0, one, one), op(19, one, one), op(19), op(255), op(255, one),
		{Op: api.OpValue}, {Op: api.OpName}, {Op: api.OpAdd}, {Op: api.OpNot}, {Op: api.OpIf},
		name("true"), name("false"), name("X"), name("1"), name("-"), name("1x"), name("a b"), name("a_b"), name("a.b"), name("x "), name(" x"), name("\u00e4"), name("x\xff"), name(long(api.MaxName + 1)), name(long(100000)),
		fixed(list()), fixed(list(whole(1))), fixed(endlessValue()), fixed(times(whole(1), api.MaxPieces)), fixed(within(whole(1), api.MaxNest)),
		fixed(num(2, 4)), fixed(num(1, 0)), fixed(num(1, -1)), fixed(whole(api.MaxRatio + 1)), fixed(str(long(api.MaxString + 1))), fixed(str("\n")), fixed(str("\u00e4")), fixed(val{Kind: 5}), fixed(val{Kind: api.KindTruth, Str: "a"}), fixed(val{Kind: api.KindNumber}),
		fixed(val{Kind: api.KindString, List: []val{whole(1)}}),
	}
	all = append(all, strangers()...)
	for _, e := range slices.Clone(all) {
		all = append(all, nots(e, 1), op(api.OpAdd, one, e), op(api.OpIf, e, name("x"), one), op(api.OpList, one, e, name("x")), nots(e, api.MaxDeep-depth(e)))
	}
	for _, code := range []uint8{0, api.OpValue, api.OpName, api.OpAdd, api.OpNot, api.OpIf, 19, 255} {
		all = append(all, op(code, slices.Repeat([]exp{one}, api.MaxPieces-1)...), op(code, nots(exp{}, api.MaxDeep-2)))
	}
	return append(all, row(exp{}, api.MaxPieces-1), row(name("true"), api.MaxPieces-1))
}

// strangers returns one expression of each operation, with one field that does not belong to it.
func strangers() []exp {
	changes := []func(*exp){
		func(e *exp) { e.Value.Kind = api.KindTruth },
		func(e *exp) { e.Value.Num = api.Ratio{Num: 1} },
		func(e *exp) { e.Value.Num = api.Ratio{Den: 1} },
		func(e *exp) { e.Value.Truth = true },
		func(e *exp) { e.Value.Str = "a" },
		func(e *exp) { e.Value.List = []val{{}} },
		func(e *exp) { e.Value = endlessValue() },
		func(e *exp) { e.Value = whole(1) },
	}
	var all []exp
	for code, arity := range arities {
		e := op(code, slices.Repeat([]exp{name("x")}, max(arity, 0))...)
		switch code {
		case api.OpValue:
			e.Value = whole(1)
			for _, s := range []string{"x", "true", "\x00"} {
				stranger := e
				stranger.Name = s
				all = append(all, stranger)
			}
			continue
		case api.OpName:
			e.Name = "x"
		default:
			stranger := e
			stranger.Name = "x"
			all = append(all, stranger)
		}
		for _, change := range changes {
			stranger := e
			change(&stranger)
			all = append(all, stranger)
		}
	}
	return all
}

// excessive returns expressions with too many parts or too great a depth; some of them are not valid otherwise, either.
func excessive() []exp {
	one := fixed(whole(1))
	var strangers []exp
	for _, code := range []uint8{0, api.OpValue, api.OpName, api.OpAdd, api.OpNot, api.OpIf, 19, 255} {
		strangers = append(strangers, op(code, slices.Repeat([]exp{one}, api.MaxPieces)...), op(code, nots(one, api.MaxDeep-1)), op(code, endless()))
	}
	return append(strangers,
		row(one, api.MaxPieces), row(op(api.OpList), api.MaxPieces), row(one, 100000), row(nots(name("x"), 1), 50), row(nots(name("x"), 2), 34), op(api.OpMin, row(one, 49), row(name("a"), 49)),
		nots(one, api.MaxDeep), nots(name("x"), api.MaxDeep), nots(op(api.OpList), api.MaxDeep), nots(one, 1000), nots(row(one, api.MaxPieces-api.MaxDeep+2), api.MaxDeep-2),
		op(api.OpIf, one, one, nots(one, api.MaxDeep-1)), op(api.OpAdd, nots(one, api.MaxDeep-1), one), endless(), op(api.OpNot, endless()),
		row(exp{}, api.MaxPieces), nots(exp{}, api.MaxDeep), op(api.OpList, exp{}, row(one, api.MaxPieces-2)), op(api.OpList, row(one, api.MaxPieces-2), exp{}), op(api.OpList, name("true"), nots(one, api.MaxDeep-1)),
		exp{Op: api.OpList, Name: "x", Args: row(one, api.MaxPieces).Args}, exp{Op: api.OpNot, Value: whole(1), Args: nots(one, api.MaxDeep).Args},
	)
}

// maker makes expressions that are different each time, and the same in each run of the tests.
type maker struct{ *rand.Rand }

func newMaker(seed int64) maker {
	return maker{rand.New(rand.NewSource(seed))}
}

// makes has, for each kind, the operations whose values are of this kind, with the kinds of their Args (0: any one, but the same for all of these).
var makes = map[uint8][]struct {
	op   uint8
	args []uint8
}{
	api.KindNumber: {
		{api.OpAdd, []uint8{1, 1}}, {api.OpSub, []uint8{1, 1}}, {api.OpMul, []uint8{1, 1}}, {api.OpDiv, []uint8{1, 1}}, {api.OpMin, []uint8{1, 1}}, {api.OpMax, []uint8{1, 1}},
		{api.OpFloor, []uint8{1}}, {api.OpLen, []uint8{3}}, {api.OpLen, []uint8{4}}, {api.OpIf, []uint8{2, 1, 1}}, {api.OpAt, []uint8{4, 1}},
	},
	api.KindTruth: {
		{api.OpLess, []uint8{0, 0}}, {api.OpSame, []uint8{0, 0}}, {api.OpAnd, []uint8{2, 2}}, {api.OpOr, []uint8{2, 2}}, {api.OpNot, []uint8{2}}, {api.OpIf, []uint8{2, 2, 2}}, {api.OpMin, []uint8{2, 2}},
	},
	api.KindString: {
		{api.OpAdd, []uint8{3, 3}}, {api.OpIf, []uint8{2, 3, 3}}, {api.OpAt, []uint8{3, 1}}, {api.OpMax, []uint8{3, 3}},
	},
	api.KindList: {
		{api.OpAdd, []uint8{4, 4}}, {api.OpIf, []uint8{2, 4, 4}}, {api.OpList, nil}, {api.OpList, []uint8{1}}, {api.OpList, []uint8{1, 1, 1}}, {api.OpList, []uint8{3, 4}}, {api.OpMin, []uint8{4, 4}},
	},
}

// expr returns an expression of at most so many levels, most often with a value of the kind; none without names if constant.
func (m maker) expr(kind uint8, levels int, constant bool) exp {
	if m.Intn(12) == 0 {
		kind = uint8(1 + m.Intn(4))
	}
	if levels <= 1 || m.Intn(6) == 0 {
		return m.leaf(kind, constant)
	}
	ways := makes[kind]
	way := ways[m.Intn(len(ways))]
	e := op(way.op)
	any := uint8(1 + m.Intn(4))
	for _, kind := range way.args {
		if kind == 0 {
			kind = any
		}
		e.Args = append(e.Args, m.expr(kind, levels-1, constant))
	}
	return e
}

func (m maker) leaf(kind uint8, constant bool) exp {
	if !constant && m.Intn(2) == 0 {
		return name([]string{"n", "t", "s", "l", "unbound", "n"}[kind-1+uint8(m.Intn(2))])
	}
	switch kind {
	case api.KindNumber:
		return fixed([]val{whole(0), whole(1), whole(2), num(1, 2), num(-3, 4), whole(api.MaxRatio)}[m.Intn(6)])
	case api.KindTruth:
		return fixed(truth(m.Intn(2) == 0))
	case api.KindString:
		return fixed(str([]string{"", "a", "b", "ab", `"\`, long(31)}[m.Intn(6)]))
	}
	return op(api.OpList)
}

// several returns valid expressions of all sorts.
func several(n int, constant bool) []exp {
	m := newMaker(1)
	var all []exp
	for len(all) < n {
		e := m.expr(uint8(1+len(all)%4), 2+len(all)%5, constant)
		if count(e) <= api.MaxPieces {
			all = append(all, e)
		}
	}
	return all
}

// environments returns valid binds.
func environments() [][]api.Bind {
	return [][]api.Bind{
		nil,
		{bind("n", whole(1)), bind("t", truth(true)), bind("s", str("ab")), bind("l", list(whole(1), whole(2)))},
		{bind("n", whole(0)), bind("t", truth(false)), bind("s", str("")), bind("l", list())},
		{bind("n", num(1, 2)), bind("n", str("second")), bind("t", whole(3)), bind("s", str(long(60))), bind("l", times(whole(1), 60))},
		{bind("l", within(str("a"), 5)), bind("s", list()), bind("n", whole(api.MaxRatio)), bind("unbound", truth(true)), bind("t", truth(true))},
	}
}
