package word_test

import (
	"fmt"
	"math/rand"
	"regexp"
	"slices"
	"strings"
	"testing"

	"gambrel/api"
	"gambrel/word"
)

func TestTexts(t *testing.T) {
	for _, c := range []struct {
		w    []mod
		text string
	}{
		{nil, ""}, {[]mod{with('F', 1, -2), with('['), with('+'), with('F'), with(']'), with('F')}, "F(1,-2)[+F]F"},
		{[]mod{with('F')}, "F"}, {[]mod{with('F', 0)}, "F(0)"}, {[]mod{with('F', 0, 0)}, "F(0,0)"}, {[]mod{with('F', 1, 2, 3, 4)}, "F(1,2,3,4)"}, {[]mod{with('F', -1)}, "F(-1)"}, {[]mod{with('F', 10)}, "F(10)"}, {[]mod{with('F', -100, 205)}, "F(-100,205)"},
		{[]mod{with('F', 1000000000)}, "F(1000000000)"}, {[]mod{with('F', -1000000000)}, "F(-1000000000)"}, {[]mod{wide()}, "F(-1000000000,-1000000000,-1000000000,-1000000000)"},
		{[]mod{with('F', 1), with('F', 2)}, "F(1)F(2)"}, {[]mod{with('F'), with('F', 12)}, "FF(12)"}, {[]mod{with('-'), with('-', -1), with('-')}, "--(-1)-"}, {[]mod{with('+', 1), with('+')}, "+(1)+"}, {[]mod{with('|', 1), with('^'), with('&'), with('!', 3)}, "|(1)^&!(3)"},
		{[]mod{with('['), with('F', 1), with(']')}, "[F(1)]"}, {[]mod{with('F', 1), with('['), with(']')}, "F(1)[]"}, {[]mod{{Name: 'F', Args: []int{}}, {Name: '[', Args: []int{}}, {Name: ']', Args: []int{}}}, "F[]"},
		{plain(names), names}, {plain("[[][]]"), "[[][]]"},
	} {
		if s, e := word.Text(c.w); s != c.text || e != api.OK {
			t.Error(show(c.w), s, e)
		}
		if w, e := word.Parse(c.text); !is(w, e, c.w) {
			t.Error(c.text, show(w), e)
		}
	}
}

func TestTextsOfAll(t *testing.T) {
	for _, w := range good() {
		if s, e := word.Text(w); s != written(w) || e != api.OK {
			t.Error(show(w), s, e)
		}
		if got, e := word.Parse(written(w)); !is(got, e, w) {
			t.Error(show(w, got), e)
		}
	}
}

// Each byte as a name, as a name with Args, and where numbers and what is between them stand.
func TestTextsOfAllBytes(t *testing.T) {
	for b := range 256 {
		name := byte(b)
		c := string([]byte{name})
		for _, s := range []string{c, "F" + c, c + "F", "[" + c + "]", "F(1)" + c, c + "(1)", c + c, "F(" + c + ")", "F(1" + c + ")", "F(" + c + "1)", "F(1" + c + "2)", "F(1,2" + c, "F" + c + "1)", "F(1,-" + c + ")"} {
			try(t, s)
		}
		if strings.IndexByte("[]", name) < 0 && strings.IndexByte(names, name) >= 0 {
			for _, w := range [][]mod{{with(name)}, {with('F'), with(name, 3, 4), with(name)}} {
				if got, e := word.Parse(written(w)); !is(got, e, w) {
					t.Error(show(w, got), e)
				}
				if s, e := word.Text(w); s != written(w) || e != api.OK {
					t.Error(show(w), s, e)
				}
			}
		}
	}
}

// All numbers up to some size, and those around the ends of what Args and integers may be.
func TestTextsOfNumbers(t *testing.T) {
	list := []int{api.MaxArg, api.MaxArg - 1, api.MaxArg / 10, 123456789, 987654321, 100000, 99999}
	for n := range 1200 {
		list = append(list, n)
	}
	for _, n := range list {
		for _, arg := range []int{n, -n} {
			w := []mod{with('F', arg), with('G', 1, arg, arg)}
			if s, e := word.Text(w); s != written(w) || e != api.OK {
				t.Error(show(w), s, e)
			}
			if got, e := word.Parse(written(w)); !is(got, e, w) {
				t.Error(show(w, got), e)
			}
		}
	}
	for _, number := range []string{
		"1000000001", "-1000000001", "1000000010", "2000000000", "9999999999", "10000000000", "2147483647", "2147483648", "-2147483648", "-2147483649", "4294967295", "4294967296", "4294967297", "-4294967297",
		"9223372036854775807", "9223372036854775808", "9223372036854775809", "-9223372036854775807", "-9223372036854775808", "-9223372036854775809", "18446744073709551615", "18446744073709551616", "18446744073709551617", "-18446744073709551615", "36893488147419103233", "340282366920938463463374607431768211457", "1" + strings.Repeat("0", 100), "1" + strings.Repeat("0", 40000), "1" + strings.Repeat("0", 1000000),
		"", " ", "-", "--1", "-0", "+0", "+1", "00", "01", "007", "-01", "-00", "1.0", "1.", ".1", "1e3", "1E3", "0x1", "0b1", "0o7", "1_000", "_1", "1-", "1-2", "1+2", "a", "1a", "a1", "x", "nil", "NaN", "Inf", " 1", "1 ", "1 000", "\t1", "1\n", "'1'", "\"1\"", "\u0661", "\uff11", "\u22121", "1\x00", "\x001", "1\xff", "(1)", "[1]", "()", "1;2", "1/1",
	} {
		for _, form := range []string{"F(%s)", "F(%s,2)", "F(2,%s)", "F(1,2,3,%s)", "F(1,%s,3)G", "[F(%s)]"} {
			if w, e := word.Parse(fmt.Sprintf(form, number)); !none(w, e, api.ErrForm) {
				t.Errorf("%.60q in %s: %s %v", number, form, show(w), e)
			}
		}
	}
}

// sized returns a word with a text of so many bytes, and with as few modules as there are.
func sized(n int) []mod {
	w := times([]mod{wide()}, n/50)
	return append(w, plain(strings.Repeat("G", n%50))...)
}

func TestTextsOfMaxLetters(t *testing.T) {
	for _, n := range []int{100, 49950, 49951, 49999, 50000} {
		w := sized(n)
		if s, e := word.Text(w); len(s) != n || s != written(w) || e != api.OK {
			t.Error(n, len(s), e)
		}
		if got, e := word.Parse(written(w)); !is(got, e, w) {
			t.Error(n, show(got), e)
		}
	}
	for _, w := range [][]mod{sized(50001), sized(50002), sized(50049), sized(50050), sized(70000), sized(100000), slices.Concat(plain("["), sized(49999), plain("]")), slices.Concat(sized(25000), []mod{with('F', 1)}, sized(25000))} {
		if word.Check(w) != api.OK || len(written(w)) <= api.MaxLetters {
			t.Error("no longer text", show(w))
		}
		if s, e := word.Text(w); s != "" || e != api.ErrMany {
			t.Error(show(w), len(s), e)
		}
		if got, e := word.Parse(written(w)); !none(got, e, api.ErrForm) {
			t.Error(show(w, got), e)
		}
	}
	// Brackets, at the limit.
	w := slices.Concat(plain("["), sized(49950), plain("]"), plain(strings.Repeat("F", 48)))
	if s, e := word.Text(w); len(s) != 50000 || s != written(w) || e != api.OK {
		t.Error(len(s), e)
	}
	if got, e := word.Parse(written(w)); !is(got, e, w) {
		t.Error(show(got), e)
	}
}

// A word that is not valid has no text, however long it would be.
func TestTextOfLongWordsThatAreNotValid(t *testing.T) {
	for _, c := range []wrong{
		{append(sized(60000), with('#')), api.ErrBad}, {append(sized(60000), with('[')), api.ErrOpen}, {append(plain("]"), sized(60000)...), api.ErrOpen}, {append(sized(60000), with('F', api.MaxArg+1)), api.ErrBad}, {times([]mod{wide()}, 2001), api.ErrMany},
	} {
		if s, e := word.Text(c.w); s != "" || e != c.e {
			t.Error(show(c.w), len(s), e)
		}
	}
}

func TestParseOfMaxWordModules(t *testing.T) {
	for _, s := range []string{strings.Repeat("F", 2000), strings.Repeat("[]", 1000), strings.Repeat("[", 1000) + strings.Repeat("]", 1000), strings.Repeat("F", 1999) + "G(1)"} {
		if w, e := word.Parse(s); len(w) != 2000 || written(w) != s || e != api.OK {
			t.Error(show(w), e)
		}
		for _, longer := range []string{s + "F", "F" + s, s + "[]", s + s, "[" + s + "]", s + "F(1)"} {
			if w, e := word.Parse(longer); !none(w, e, api.ErrForm) {
				t.Error(show(w), e)
			}
		}
	}
	s := strings.Repeat("F(1,2)", 2000)
	if w, e := word.Parse(s); len(w) != 2000 || written(w) != s || e != api.OK {
		t.Error(show(w), e)
	}
	if w, e := word.Parse(s + "F"); !none(w, e, api.ErrForm) {
		t.Error(show(w), e)
	}
}

func TestParseRejectsOtherForms(t *testing.T) {
	for _, s := range []string{
		"F(01)", "F()", "[F", "F (1)", "#", " ", "  ", " F", "F ", "F F", "\n", "F\n", "\tF", "F\r\n", "\x00", "F\x00", "0", "1", "F1", "1F", "F0", "-1", "+1", "F-1", "12", "_", "F_", "FÄ", "\u00e4", "\u20ac", "\ufeffF", "\xff", "\x80F", "\u0046\u0301", "\uff26",
		"(", ")", "()", "(1)", "((", "))", ")(", "(1", "1)", "F(", "F)", "F)(", "F(1", "F1)", "F(1))", "F((1)", "F((1))", "F(1)(2)", "F(1)()", "F()(1)", "F(1)(", "F(1))F", "(F)", "(F(1))", "F(G)", "F(G(1))", "F(1)2", "F(1)2)", "F(1(2)", "F(1(2))", "F(1)G(", "F(1G(2)", "F(1G)", "F(1]", "F(1[", "F(1[]", "F(1[])", "[F(1]", "[F(1])", "F[(1)]", "F(1", "F(1,2", "F(1,", "F(,", "F[1]", "F{1}", "F<1>",
		"F(,)", "F(,1)", "F(1,)", "F(1,,2)", "F(,1,)", "F(,,)", "F(,,,)", "F(1,2,)", "F(1, 2)", "F(1 ,2)", "F( 1)", "F(1 )", "F( )", "F(1 2)", "F(1;2)", "F(1.2)", "F(1,\n2)", "F(1\n)", ",", "F,", "F,G", ",F", "F(1),G(2)", "F(1),", "F, G",
		"F(1,2,3,4,5)", "F(0,0,0,0,0)", "F(1,2,3,4,)", "F(,1,2,3,4)", "F(1,2,3,4,5,6,7,8)", "F(" + strings.Repeat("1,", 20000) + "1)", "F(" + strings.Repeat(",", 40000) + ")",
		"[(1)]", "[](1)", "[(1)F]", "[F](1)", "[()]", "[]()", "[(0)](0)", "[(1,2)]", "](1)", "[(1)", "[(", "](", "[F](-1)F", "[(1)](1)",
		"[", "]", "][", "[[]", "[]]", "F[F[F]F", "F]F[F", "]F[", "[F]]", "[[F]", strings.Repeat("[", 1000) + strings.Repeat("]", 999), strings.Repeat("[", 999) + strings.Repeat("]", 1000), strings.Repeat("[", 50000), strings.Repeat("]", 50000), strings.Repeat("[", 1000), strings.Repeat("]", 1000),
		strings.Repeat("F", 50000), strings.Repeat("F", 50001), strings.Repeat("(", 50000), strings.Repeat(")", 50000), strings.Repeat("()", 25000), strings.Repeat("F(", 25000), strings.Repeat("F()", 16000), strings.Repeat(",", 50000), strings.Repeat(" ", 50000), strings.Repeat("-", 2001), strings.Repeat("[]", 25001), strings.Repeat("\xff", 50000), "F(" + strings.Repeat("1", 49997) + ")", "F(" + strings.Repeat("-", 49997) + ")", "F(" + strings.Repeat("0", 49996) + "1)",
		strings.Repeat("F", 10000000), strings.Repeat("[", 10000000), strings.Repeat("(", 10000000), "F(" + strings.Repeat("1", 10000000) + ")", "F(" + strings.Repeat("1,", 5000000) + "1)", strings.Repeat("F(1)", 1000000),
		"F#", "F$G", "F%", "F*", "F/", "F=", "F\\", "F`", "F~", "F?", "F@", "F:", "F;", "F\"", "F'", "F.", "F<", "F>", "{", "}", "F{", "\x7f",
		"F(1)[+F](2)", "F(-)", "F(--1)", "F(+)", "F(1-)", "F(1-1)", "F(-1-)", "F(- 1)", "F(-,1)", "F(-0)", "F(1,-0)", "F(0,00)", "F(+1)", "F(1,+1)", "F(-01)",
	} {
		if w, e := word.Parse(s); !none(w, e, api.ErrForm) || formal(s) {
			t.Errorf("%.100q %s %v", s, show(w), e)
		}
	}
}

// formal reports whether s is the text of a valid word, found without the program.
func formal(s string) bool {
	if len(s) > api.MaxLetters || !form.MatchString(s) {
		return false
	}
	return len(allArgs.ReplaceAllString(s, "")) <= api.MaxWord && matching(s)
}

var allArgs = regexp.MustCompile(`\([^)]*\)`)

var form = regexp.MustCompile(`^(?:[A-Za-z+&^|!-](?:\(` + arg + `(?:,` + arg + `){0,3}\))?|\[|\])*$`)

// arg is the form of a number up to MaxArg.
const arg = `(?:0|-?[1-9][0-9]{0,8}|-?1000000000)`

// try compares Parse of s with the form of texts.
func try(t *testing.T, s string) {
	w, e := word.Parse(s)
	if formal(s) {
		if e != api.OK || word.Check(w) != api.OK || written(w) != s {
			t.Errorf("%.100q %s %v", s, show(w), e)
		}
	} else if !none(w, e, api.ErrForm) {
		t.Errorf("%.100q %s %v", s, show(w), e)
	}
}

// All short strings of what texts are made of.
func TestParseOfAllShortStrings(t *testing.T) {
	pieces := []string{"F", "-", "+", "[", "]", "(", ")", ",", "0", "1", " ", "#"}
	found := 0
	var walk func(s string, length int)
	walk = func(s string, length int) {
		try(t, s)
		if formal(s) {
			found++
		}
		if length > 0 {
			for _, piece := range pieces {
				walk(s+piece, length-1)
			}
		}
	}
	walk("", 5)
	for _, start := range []string{"F(", "F(1", "F(1,", "[F(", "F(1,2,3,", "F(-", "F(100000000", "F(-1,-", "F(1)", "[[F]", "F(0"} {
		walk(start, 3)
	}
	if found < 900 {
		t.Error(found)
	}
}

// Each text of a valid word, with one byte taken out, put in or changed.
func TestParseOfTextsWithOneError(t *testing.T) {
	for _, text := range []string{"F(1,-2)[+F]F", "A(-10)[B(0,1)[C]]", "[[]-(1,2,3,4)]", "!(1000000000,-1000000000)^&|", "[F(999999999)][G]"} {
		for i := range len(text) + 1 {
			for _, c := range []byte("[](),-+F019 #\x00\x80\xff") {
				try(t, string(slices.Insert([]byte(text), i, c)))
				if i < len(text) {
					changed := []byte(text)
					changed[i] = c
					try(t, string(changed))
					try(t, string(slices.Delete([]byte(text), i, i+1)))
				}
			}
		}
	}
}

// Strings of random bytes, and of random pieces of texts.
func TestParseOfRandomStrings(t *testing.T) {
	r := rand.New(rand.NewSource(60))
	pieces := []string{"F", "G(1)", "+(-2,3)", "[", "]", "[-]", "(", ")", ",", "0", "-", "12", "1000000000", "F(", "\xff", " "}
	for range 20000 {
		s := make([]byte, r.Intn(12))
		for i := range s {
			s[i] = byte(r.Intn(256))
		}
		try(t, string(s))
		mixed := ""
		for range r.Intn(8) {
			mixed += pieces[min(r.Intn(len(pieces)), r.Intn(len(pieces)))]
		}
		try(t, mixed)
	}
}

// Whatever a word is, each call ends without a panic, and as the definition of Check says.
func TestFunctionsTakeAllWords(t *testing.T) {
	r := rand.New(rand.NewSource(61))
	for range 20000 {
		w := make([]mod, r.Intn(9))
		for i := range w {
			w[i].Name = "FG+[][]"[r.Intn(7)]
			if r.Intn(30) == 0 {
				w[i].Name = byte(r.Intn(256))
			}
			for range max(0, r.Intn(30)-24) {
				w[i].Args = append(w[i].Args, int(r.Uint64())>>r.Intn(64))
			}
		}
		want := checked(w)
		at, e := word.Close(w, r.Intn(12)-1)
		depth, f := word.Depth(w)
		trunk, g := word.Strip(w)
		joined, h := word.Join(w, w)
		text, i := word.Text(w)
		if want != api.OK && (e != want || at != 0 || depth != 0 || len(trunk)+len(joined)+len(text) != 0) || want == api.OK && e != api.OK && e != api.ErrArg {
			t.Error(show(w, trunk, joined), at, depth, text, e, want)
		}
		if word.Check(w) != want || f != want || g != want || h != want || i != want || !word.Same(w, word.Twin(w)) {
			t.Error(show(w), want, f, g, h, i)
		}
	}
}
