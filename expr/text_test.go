package expr_test

import (
	"fmt"
	"regexp"
	"slices"
	"strings"
	"testing"

	"gambrel/api"
	"gambrel/expr"
	"gambrel/label"
	"gambrel/ratio"
	"gambrel/value"
)

// shapes has, for each operation, its text with % for each Arg.
var shapes = map[uint8]string{
	api.OpAdd: "(% + %)", api.OpSub: "(% - %)", api.OpMul: "(% * %)", api.OpDiv: "(% / %)", api.OpLess: "(% < %)", api.OpSame: "(% = %)", api.OpAnd: "(% and %)", api.OpOr: "(% or %)",
	api.OpNot: "not(%)", api.OpIf: "if(%, %, %)", api.OpMin: "min(%, %)", api.OpMax: "max(%, %)", api.OpFloor: "floor(%)", api.OpLen: "len(%)", api.OpAt: "at(%, %)",
}

// written returns the text of a valid expression, found without the program, but for the layers below.
func written(e exp) string {
	switch e.Op {
	case api.OpValue:
		s, _ := value.Text(e.Value)
		return s
	case api.OpName:
		return e.Name
	case api.OpList:
		var args []string
		for _, arg := range e.Args {
			args = append(args, written(arg))
		}
		return "[" + strings.Join(args, ", ") + "]"
	}
	pieces := strings.Split(shapes[e.Op], "%")
	s := pieces[0]
	for i, arg := range e.Args {
		s += written(arg) + pieces[i+1]
	}
	return s
}

func TestTexts(t *testing.T) {
	one, x, y, z := fixed(whole(1)), name("x"), name("y"), name("z")
	for _, c := range []struct {
		e    exp
		text string
	}{
		{one, "1"}, {fixed(num(-1, 2)), "-1/2"}, {fixed(truth(true)), "true"}, {fixed(truth(false)), "false"}, {fixed(str(`a"b`)), `"a\"b"`}, {fixed(str("x")), `"x"`}, {fixed(str("(x + 1)")), `"(x + 1)"`}, {fixed(str(`\`)), `"\\"`},
		{x, "x"}, {name("a-1"), "a-1"}, {name("true-1"), "true-1"}, {name("not"), "not"}, {name("if"), "if"}, {name("and"), "and"},
		{op(api.OpAdd, x, fixed(num(1, 2))), "(x + 1/2)"}, {op(api.OpSub, x, y), "(x - y)"}, {op(api.OpMul, x, y), "(x * y)"}, {op(api.OpDiv, x, y), "(x / y)"}, {op(api.OpLess, x, y), "(x < y)"}, {op(api.OpSame, x, y), "(x = y)"}, {op(api.OpAnd, x, y), "(x and y)"}, {op(api.OpOr, x, y), "(x or y)"},
		{op(api.OpNot, x), "not(x)"}, {op(api.OpIf, x, y, z), "if(x, y, z)"}, {op(api.OpMin, x, y), "min(x, y)"}, {op(api.OpMax, x, y), "max(x, y)"}, {op(api.OpFloor, x), "floor(x)"}, {op(api.OpLen, x), "len(x)"}, {op(api.OpAt, x, y), "at(x, y)"},
		{op(api.OpList), "[]"}, {op(api.OpList, x), "[x]"}, {op(api.OpList, x, y), "[x, y]"}, {op(api.OpList, x, y, z, one), "[x, y, z, 1]"}, {op(api.OpList, op(api.OpList), op(api.OpList, one)), "[[], [1]]"},
		{op(api.OpAdd, op(api.OpMul, x, y), op(api.OpSub, one, z)), "((x * y) + (1 - z))"}, {op(api.OpNot, op(api.OpNot, x)), "not(not(x))"}, {op(api.OpNot, op(api.OpAnd, x, y)), "not((x and y))"}, {op(api.OpSub, fixed(whole(-1)), fixed(whole(-1))), "(-1 - -1)"},
		{op(api.OpAnd, name("and"), name("and")), "(and and and)"}, {op(api.OpOr, name("or"), op(api.OpNot, name("not"))), "(or or not(not))"}, {op(api.OpIf, name("if"), name("min"), name("at")), "if(if, min, at)"}, {op(api.OpList, name("floor"), name("len")), "[floor, len]"}, {op(api.OpSub, name("a-"), name("b-")), "(a- - b-)"},
		{op(api.OpIf, op(api.OpLess, x, fixed(whole(0))), op(api.OpAt, op(api.OpList), fixed(whole(0))), fixed(str("ok"))), `if((x < 0), at([], 0), "ok")`},
		{op(api.OpAdd, fixed(str(`" + "`)), fixed(str(")"))), `("\" + \"" + ")")`},
	} {
		if s, fault := expr.Text(c.e); s != c.text || fault != api.OK {
			t.Error(show(c.e), s, fault)
		}
		if e, fault := expr.Parse(c.text); !is(e, fault, c.e) {
			t.Error(c.text, show(e), fault)
		}
	}
}

func TestTextsOfAll(t *testing.T) {
	for _, e := range all() {
		if s, fault := expr.Text(e); s != written(e) || fault != api.OK {
			t.Error(show(e), s, fault)
		}
		if got, fault := expr.Parse(written(e)); !is(got, fault, e) {
			t.Error(show(e, got), fault)
		}
	}
}

// sized returns a list of strings and names with a text of so many bytes.
func sized(n int) exp {
	e := op(api.OpList, fixed(str("")), fixed(str("")))
	rest := n - len(`["", ""]`)
	for rest > 120 {
		e.Args = append(e.Args, fixed(str(long(56))))
		e.Args = append(e.Args, name(long(38)))
		rest -= len(`, ""`) + 56 + len(", ") + 38
	}
	e.Args[0].Value.Str, e.Args[1].Value.Str = long(min(rest, 60)), long(max(rest-60, 0))
	return e
}

func TestTextsOfMaxText(t *testing.T) {
	for _, n := range []int{100, 1000, api.MaxText - 1, api.MaxText} {
		e := sized(n)
		if s, fault := expr.Text(e); len(s) != n || s != written(e) || fault != api.OK {
			t.Error(n, len(s), fault)
		}
		if got, fault := expr.Parse(written(e)); !is(got, fault, e) {
			t.Error(n, show(got), fault)
		}
	}
	quotes := fixed(str(strings.Repeat(`"`, 60)))
	for _, e := range []exp{sized(api.MaxText + 1), sized(api.MaxText + 2), sized(4500), row(fixed(str(long(60))), 99), row(quotes, 99), op(api.OpAdd, row(quotes, 20), row(quotes, 20)), row(op(api.OpNot, name(long(40))), 49), row(op(api.OpAdd, name(long(40)), name(long(40))), 33)} {
		over := len(written(e)) > api.MaxText
		if expr.Check(e) != api.OK {
			t.Error("not valid", show(e))
		}
		if s, fault := expr.Text(e); over && (s != "" || fault != api.ErrMany) || !over && (s != written(e) || fault != api.OK) {
			t.Error(show(e), len(s), fault)
		}
		if got, fault := expr.Parse(written(e)); over && !none(got, fault, api.ErrForm) || !over && !is(got, fault, e) {
			t.Error(show(e, got), fault)
		}
	}
	// The same length in bytes of the string, more in the text.
	e := sized(api.MaxText)
	e.Args[0].Value.Str = `"` + e.Args[0].Value.Str[1:]
	if s, fault := expr.Text(e); s != "" || fault != api.ErrMany {
		t.Error(s, fault)
	}
}

func TestParseRejectsOtherForms(t *testing.T) {
	list := func(n int) string { return "[" + strings.Repeat("1, ", n-1) + "1]" }
	deep := func(n int) string { return strings.Repeat("not(", n) + "x" + strings.Repeat(")", n) }
	for _, s := range []string{list(99), deep(11), strings.Repeat("[", 12) + strings.Repeat("]", 12), strings.Repeat("(1 + ", 11) + "1" + strings.Repeat(")", 11), "[" + strings.Repeat("not(x), ", 48) + "not(x)]", "[" + strings.Repeat("[], ", 98) + "[]]", `"` + long(60) + `"`, long(40)} {
		if e, fault := expr.Parse(s); fault != api.OK || written(e) != s {
			t.Errorf("%.100q %s %v", s, show(e), fault)
		}
	}
	for _, s := range []string{
		list(100), list(1000), deep(12), deep(700), strings.Repeat("[", 13) + strings.Repeat("]", 13), strings.Repeat("(1 + ", 12) + "1" + strings.Repeat(")", 12), strings.Repeat("(1 + ", 12) + "1" + strings.Repeat(")", 11), "[" + strings.Repeat("not(x), ", 49) + "not(x)]", "[" + strings.Repeat("[], ", 99) + "[]]", `"` + long(61) + `"`, long(41), long(4000), `"` + long(3998) + `"`,
		"", " ", "X", "_", "x y", "x ", " x", "x\n", "\tx", "x)", "x]", "x,", "x, y", "(x)", "((x + y))", "()", "( )", "x + y", "not x", "not(x", "not x)", "notx)",
		"1x", "01", "-0", "+1", "--1", "-x", "-(x)", "2/4", "1/1", "1/0", "1/-2", "1.5", "1000000001", "1e3", "0x1", "1 /2", "1/ 2", "- 1", "-", "/", "\u0661", "tRue", "True", "true ", "truefalse)", "\u00e4",
		"(1+2)", "(1 +2)", "(1+ 2)", "( 1 + 2)", "(1 + 2 )", "(1  + 2)", "(1 +  2)", "(1 + 2", "1 + 2)", "(1 + )", "( + 2)", "(+ 2)", "(1 +)", "(1 + 2 + 3)", "(1 + 2))", "((1 + 2)", "(1 + 2) ", " (1 + 2)", "(1 plus 2)", "(1 & 2)", "(1 > 2)", "(1 == 2)", "(1 <= 2)", "(1 != 2)", "(1 - - 1)", "(1, 2)", "(1 ; 2)", "[1 + 2]", "(1 + 2]", "{1 + 2}", "(1\t+\t2)", "(1 % 2)", "(1 not 2)", "(1 if 2)", "(1 min 2)",
		"(x and)", "(x andy)", "(xand y)", "(x and y", "(x  and y)", "(x And y)", "(and and)", "(and)", "(x orr y)", "(x or)", "(x xor y)",
		"not()", "not(x, y)", "not(x,)", "not (x)", "not( x)", "not(x )", "Not(x)", "not[x]", "not(x))", "not(x)y", "nott(x)", "(not(x)", "not((x)", "!(x)", "not(x y)",
		"if(x, y)", "if(x)", "if()", "if(x, y, z, x)", "if(x,y,z)", "if(x, y, z", "if(x, y,  z)", "if(x , y, z)", "if(x; y; z)", "if (x, y, z)", "if x, y, z", "if(x y z)", "if(x, y, )", "if(, y, z)", "if(x, , z)",
		"min(x)", "min(x, y, z)", "min()", "min(x,y)", "min(x y)", "max(x)", "max(x, y, z)", "max()", "max[x, y]", "floor()", "floor(x, y)", "floor(x", "len()", "len(x, y)", "len x", "at(x)", "at(x, y, z)", "at()", "at(x,y)", "abs(x)", "x(y)", "x()", "add(x, y)", "list(x)", "true(x)", "sum(x, y)",
		"[", "]", "[]]", "[[]", "[ ]", "[x", "x]", "[x,y]", "[x,  y]", "[x , y]", "[x, y,]", "[x, y, ]", "[,]", "[, ]", "[, x]", "[x y]", "[x; y]", "[x, y] ", " [x]", "[]1", "[][]", "[], []", "[x](y)", "[x)", "(x]", "[x, (y]", "[1, [2, 3]", "[1,\n2]",
		`"`, `"a`, `a"`, `"a""`, `"a"b`, `"""`, `"\"`, `"\`, `"\\\"`, `"\a"`, `"\n"`, `'a'`, `"a" `, ` "a"`, "\"\n\"", "\"\x7f\"", "\"\u00e4\"", "\"\xff\"", `["a", "b]`, `("a" + "b)`, `("a + "b")`, `not("a)`, `("a"+ "b")`, `("a\" + "b")`, `"a"(x)`, `x"a"`, `"a"x`,
		strings.Repeat("(", 4000), strings.Repeat("[", 4000), strings.Repeat("not(", 1000), strings.Repeat("(x + ", 800), strings.Repeat("if(x, ", 600), strings.Repeat(")", 4000), strings.Repeat(`"`, 4000), strings.Repeat(`\`, 4000), strings.Repeat("1", 4000), strings.Repeat("[1, ", 1000), strings.Repeat("[", 2000) + strings.Repeat("]", 2000), strings.Repeat("[], ", 1000),
		strings.Repeat("(", 10000000), strings.Repeat("[", 10000000), strings.Repeat("not(", 1000000), long(1000000), strings.Repeat("1, ", 1000000),
	} {
		if e, fault := expr.Parse(s); !none(e, fault, api.ErrForm) {
			t.Errorf("%.100q %s %v", s, show(e), fault)
		}
	}
}

var quotation = regexp.MustCompile(`^"([^"\\]|\\["\\])*"$`)

// formal reports whether s is the text of some expression, of any size. It tries all ways to divide it.
func formal(s string) bool {
	_, fault := ratio.Parse(s)
	if fault == api.OK || s == "true" || s == "false" || label.Name(s) || quotation.MatchString(s) {
		return true
	}
	if strings.HasPrefix(s, "[") && strings.HasSuffix(s, "]") && len(s) > 1 {
		inner := s[1 : len(s)-1]
		if inner == "" || elements(inner) {
			return true
		}
	}
	for _, shape := range shapes {
		pieces := strings.Split(shape, "%")
		last := len(pieces) - 1
		if rest, ok := strings.CutPrefix(s, pieces[0]); ok {
			if rest, ok := strings.CutSuffix(rest, pieces[last]); ok && divided(rest, pieces[1:last]) {
				return true
			}
		}
	}
	return false
}

// elements reports whether s is made of texts with a comma and a space between two of them.
func elements(s string) bool {
	for i := range s {
		if strings.HasPrefix(s[i:], ", ") && formal(s[:i]) && elements(s[i+2:]) {
			return true
		}
	}
	return formal(s)
}

// divided reports whether s is made of texts with the pieces between them.
func divided(s string, pieces []string) bool {
	if len(pieces) == 0 {
		return formal(s)
	}
	for i := range s {
		if strings.HasPrefix(s[i:], pieces[0]) && formal(s[:i]) && divided(s[i+len(pieces[0]):], pieces[1:]) {
			return true
		}
	}
	return false
}

// tryParse compares Parse with formal, for a text that is not too large, and returns whether it is one.
func tryParse(t *testing.T, s string) bool {
	t.Helper()
	e, fault := expr.Parse(s)
	if !formal(s) {
		if !none(e, fault, api.ErrForm) {
			t.Errorf("%q %s %v", s, show(e), fault)
		}
		return false
	}
	if fault != api.OK || expr.Check(e) != api.OK || written(e) != s {
		t.Errorf("%q %s %v", s, show(e), fault)
	}
	return true
}

// All short strings of what texts are made of.
func TestParseOfAllShortStrings(t *testing.T) {
	pieces := []string{"(", ")", "[", "]", ", ", ",", " ", " + ", " - ", " and ", "not(", "if(", "min(", "x", "1", "-", `"`, `\`, "true"}
	found := 0
	var walk func(s string, length int)
	walk = func(s string, length int) {
		if tryParse(t, s) {
			found++
		}
		if length > 0 {
			for _, piece := range pieces {
				walk(s+piece, length-1)
			}
		}
	}
	walk("", 4)
	for _, start := range []string{"(x + ", "[x, ", "if(x, 1, ", "min([], ", `("`, "not((x", "at(x, ", "(not(x) or ", "(len(x)"} {
		walk(start, 3)
	}
	if found < 500 {
		t.Error(found)
	}
}

// Each text, with one byte taken out, put in or changed.
func TestParseOfTextsWithOneError(t *testing.T) {
	found := 0
	try := func(s string) {
		if tryParse(t, s) {
			found++
		}
	}
	for _, s := range []string{"(x + 1/2)", `if((x < 0), at([], 0), "ok")`, "not((and or true))", `["a\"\\", [x, -1], min(y, 2)]`, "max(floor(-3/2), len(l))", "((a - b) * (1 / c))", "(if = not(not))", "(a-b and t)"} {
		text := []byte(s)
		for i := range len(text) + 1 {
			for _, c := range []byte("()[], \"\\10-/+axn") {
				try(string(slices.Insert(slices.Clone(text), i, c)))
				if i < len(text) {
					changed := slices.Clone(text)
					changed[i] = c
					try(string(changed))
					try(string(slices.Delete(slices.Clone(text), i, i+1)))
				}
			}
		}
	}
	if found < 200 {
		t.Error(found)
	}
}

func TestParseOfAllBytes(t *testing.T) {
	for b := range 256 {
		for _, form := range []string{"%s", "x%s", "%sx", "[%s]", "(x%s1)", "(x %s 1)", "not(%s)", "not%sx)", "if(x,%sy, z)", "\"%s\"", "\"\\%s\"", "\"a%s\"", "1%s", "true%s"} {
			s := fmt.Sprintf(form, string([]byte{byte(b)}))
			// Only strings can contain bytes that formal does not look at.
			if strings.HasPrefix(s, `"`) && (b < 32 || b > 126) {
				if e, fault := expr.Parse(s); !none(e, fault, api.ErrForm) {
					t.Errorf("%q %s %v", s, show(e), fault)
				}
				continue
			}
			tryParse(t, s)
		}
	}
}
