package value_test

import (
	"fmt"
	"regexp"
	"slices"
	"strings"
	"testing"

	"gambrel/api"
	"gambrel/ratio"
	"gambrel/value"
)

// written returns the text of a valid value, found without the program.
func written(v val) string {
	switch v.Kind {
	case api.KindNumber:
		return strings.TrimSuffix(fmt.Sprintf("%d/%d", v.Num.Num, v.Num.Den), "/1")
	case api.KindTruth:
		return fmt.Sprint(v.Truth)
	case api.KindString:
		return `"` + strings.NewReplacer(`"`, `\"`, `\`, `\\`).Replace(v.Str) + `"`
	}
	s := "["
	for i, element := range v.List {
		if i > 0 {
			s += ", "
		}
		s += written(element)
	}
	return s + "]"
}

func TestTexts(t *testing.T) {
	for _, c := range []struct {
		v    val
		text string
	}{
		{list(num(1, 2), truth(true), str(`a"b`)), `[1/2, true, "a\"b"]`},
		{whole(0), "0"}, {whole(-3), "-3"}, {num(-3, 2), "-3/2"}, {num(1, api.MaxRatio), "1/1000000000"},
		{truth(true), "true"}, {truth(false), "false"},
		{str(""), `""`}, {str("a"), `"a"`}, {str(" "), `" "`}, {str("true"), `"true"`}, {str("1"), `"1"`}, {str("[]"), `"[]"`}, {str("a, b"), `"a, b"`},
		{str(`"`), `"\""`}, {str(`\`), `"\\"`}, {str(`\"`), `"\\\""`}, {str(`"\`), `"\"\\"`}, {str(`\n`), `"\\n"`}, {str("'`"), "\"'`\""},
		{list(), "[]"}, {list(list()), "[[]]"}, {list(list(), list()), "[[], []]"}, {list(whole(1)), "[1]"}, {list(whole(1), whole(2)), "[1, 2]"},
		{list(list(whole(1), str("]")), str(", "), truth(false)), `[[1, "]"], ", ", false]`},
		{within(whole(1), 5), "[[[[[1]]]]]"}, {within(list(), 5), "[[[[[[]]]]]]"},
		{val{Kind: api.KindList, List: []val{}}, "[]"},
	} {
		if s, e := value.Text(c.v); s != c.text || e != api.OK {
			t.Error(show(c.v), s, e)
		}
		if v, e := value.Parse(c.text); !is(v, e, c.v) {
			t.Error(c.text, show(v), e)
		}
	}
}

func TestTextsOfAll(t *testing.T) {
	for _, v := range good() {
		if s, e := value.Text(v); s != written(v) || e != api.OK {
			t.Error(show(v), s, e)
		}
		if got, e := value.Parse(written(v)); !is(got, e, v) {
			t.Error(show(v, got), e)
		}
	}
}

func TestTextsOfAllBytes(t *testing.T) {
	for b := range 256 {
		c := string([]byte{byte(b)})
		fine := b >= 32 && b <= 126
		for _, s := range []string{c, "a" + c, c + "a", c + c} {
			v, e := value.Parse(written(str(s)))
			if fine && !is(v, e, str(s)) || !fine && !none(v, e, api.ErrForm) {
				t.Errorf("%q %s %v", s, show(v), e)
			}
		}
		// A backslash stands in front of a quotation mark or a backslash alone.
		v, e := value.Parse(`"\` + c + `"`)
		if special := c == `"` || c == `\`; special && !is(v, e, str(c)) || !special && !none(v, e, api.ErrForm) {
			t.Errorf("%q %s %v", c, show(v), e)
		}
	}
}

// sized returns a list with a text of so many bytes.
func sized(n int) val {
	v := list(str(""), str(""))
	rest := n - len(`["", ""]`)
	for rest > 120 {
		v.List = append(v.List, str(long(60)))
		rest -= len(`, ""`) + 60
	}
	v.List[0].Str, v.List[1].Str = long(min(rest, 60)), long(max(rest-60, 0))
	return v
}

func TestTextsOfMaxText(t *testing.T) {
	for _, n := range []int{100, 1000, api.MaxText - 1, api.MaxText} {
		v := sized(n)
		if s, e := value.Text(v); len(s) != n || s != written(v) || e != api.OK {
			t.Error(n, len(s), e)
		}
		if got, e := value.Parse(written(v)); !is(got, e, v) {
			t.Error(n, show(got), e)
		}
	}
	for _, v := range []val{sized(api.MaxText + 1), sized(api.MaxText + 2), sized(5000), times(str(long(60)), 99), times(str(strings.Repeat(`"`, 60)), 99), list(list(times(str(strings.Repeat(`\`, 60)), 40)))} {
		if value.Check(v) != api.OK || len(written(v)) <= api.MaxText {
			t.Error("no longer text", show(v))
		}
		if s, e := value.Text(v); s != "" || e != api.ErrMany {
			t.Error(show(v), s, e)
		}
		if got, e := value.Parse(written(v)); !none(got, e, api.ErrForm) {
			t.Error(show(v, got), e)
		}
	}
	// The same length in bytes of the string, more in the text.
	v := sized(api.MaxText)
	v.List[0].Str = `"` + v.List[0].Str[1:]
	if s, e := value.Text(v); s != "" || e != api.ErrMany {
		t.Error(s, e)
	}
}

func TestParseRejectsOtherForms(t *testing.T) {
	for _, s := range []string{
		"", " ", "a", "x", "nil", "True", "TRUE", "tru", "truee", "true ", " true", "truefalse", "true, false", "false]", "falsetrue", "t",
		"01", "-0", "+1", "1.0", "1 ", " 1", "1\n", "--1", "1/1", "2/4", "1/0", "0/1", "1/-2", "1000000001", "1e3", "0x1", "1, 2", "1]", "1,", "\u0661", "99999999999999999999",
		`"`, `"a`, `a"`, `"a""`, `"a"b`, `"""`, `"\"`, `"\`, `"\\\"`, `"\a"`, `"\n"`, `"\u0041"`, `"\ "`, `" "" "`, `'a'`, `"a" `, ` "a"`, `"a", "b"`, "`a`",
		"\"\n\"", "\"\t\"", "\"\x00\"", "\"\x1f\"", "\"\x7f\"", "\"\xff\"", "\"\x80\"", "\"\u00e4\"", "\"\ufffd\"", "\"\\\u00e4\"", "\"\\\xff\"",
		"[", "]", "[]]", "[[]", "[ ]", "[1", "1]", "[1,2]", "[1,  2]", "[1 , 2]", "[1, 2,]", "[1, 2, ]", "[1,]", "[1, ]", "[,]", "[, ]", "[,1]", "[, 1]", "[,, ]", "[1,, 2]", "[1, , 2]", "[1 2]", "[1;2]", "[1, 2] ", " [1]", "[1 ]", "[ 1]", "[]1", "[][]", "[], []", "[1][2]", "(1)", "{1}", "[1]]", "[[1]", "[[1], 2", `["a", "b]`, `["a]", "b]`, `[a]`, "[true, tru]", "[1\n]", "[1,\n2]", "[1,\t2]",
		"[1, 2)", "[1, [2, 3]", "[1, [2, 3]]]", "[\"]", "[\"\"", "]1[", "[01]", "[-0]", "[2/4]",
		"[[[[[[1]]]]]]", "[[[[[[[]]]]]]]", "[" + strings.Repeat("1, ", 99) + "1]", "[" + strings.Repeat("[], ", 99) + "[]]", `"` + long(61) + `"`, `"` + strings.Repeat(`\"`, 61) + `"`, `["` + long(61) + `"]`,
		strings.Repeat("[", 4000), strings.Repeat("[", 2000) + strings.Repeat("]", 2000), strings.Repeat("]", 4000), strings.Repeat(",", 4000), strings.Repeat(`"`, 4000), strings.Repeat(`\`, 4000), strings.Repeat("1", 4000), strings.Repeat("[1, ", 1000), "[" + strings.Repeat("1, ", 1300) + "1]",
		strings.Repeat("[", 10000000), strings.Repeat("1", 10000000), `"` + long(1000000) + `"`, strings.Repeat("[1, ", 1000000),
	} {
		if v, e := value.Parse(s); !none(v, e, api.ErrForm) {
			t.Errorf("%.100q %s %v", s, show(v), e)
		}
	}
}

// formal reports whether s is a text of some value, of any size: what is a scalar is replaced, and then lists of such, until there are none.
func formal(s string) bool {
	s = quotation.ReplaceAllString(s, "V")
	s = word.ReplaceAllStringFunc(s, func(word string) string {
		_, e := ratio.Parse(word)
		if e == api.OK || word == "true" || word == "false" {
			return "V"
		}
		return word
	})
	for before := ""; s != before; {
		before = s
		s = brackets.ReplaceAllString(s, "V")
	}
	return s == "V"
}

var (
	quotation = regexp.MustCompile(`"([^"\\]|\\["\\])*"`)
	word      = regexp.MustCompile(`[a-z0-9/-]+`)
	brackets  = regexp.MustCompile(`\[(V(, V)*)?\]`)
)

// All short strings of what texts are made of.
func TestParseOfAllShortStrings(t *testing.T) {
	pieces := []string{"[", "]", ", ", ",", " ", `"`, `\`, "1", "0", "-", "/", "2", "true", "a"}
	found := 0
	var walk func(s string, length int)
	walk = func(s string, length int) {
		v, e := value.Parse(s)
		if formal(s) {
			found++
			if e != api.OK || value.Check(v) != api.OK || written(v) != s {
				t.Errorf("%q %s %v", s, show(v), e)
			}
		} else if !none(v, e, api.ErrForm) {
			t.Errorf("%q %s %v", s, show(v), e)
		}
		if length > 0 {
			for _, piece := range pieces {
				walk(s+piece, length-1)
			}
		}
	}
	walk("", 4)
	for _, start := range []string{"[1, ", `[[], "`, "[1/", `["]", `, "[[1], [", `"\"`} {
		walk(start, 3)
	}
	if found < 500 {
		t.Error(found)
	}
}

// Each text of a valid value, with one byte taken out, put in or changed.
func TestParseOfTextsWithOneError(t *testing.T) {
	for _, v := range []val{list(num(1, 2), truth(true), str(`a"b`)), list(list(), list(whole(-10), str(`\`)), list(list(truth(false)))), str(`"\"`), num(-12, 35)} {
		text := []byte(written(v))
		for i := range len(text) + 1 {
			for _, c := range []byte("[], \"\\10-/at\x1f\x7f\xe4") {
				try(t, string(slices.Insert(slices.Clone(text), i, c)))
				if i < len(text) {
					changed := slices.Clone(text)
					changed[i] = c
					try(t, string(changed))
					try(t, string(slices.Delete(slices.Clone(text), i, i+1)))
				}
			}
		}
	}
}

func try(t *testing.T, s string) {
	plain := !strings.ContainsAny(s, "\x1f\x7f") && !strings.Contains(s, "\xe4")
	v, e := value.Parse(s)
	if plain && formal(s) {
		if e != api.OK || written(v) != s {
			t.Errorf("%q %s %v", s, show(v), e)
		}
	} else if !none(v, e, api.ErrForm) {
		t.Errorf("%q %s %v", s, show(v), e)
	}
}
