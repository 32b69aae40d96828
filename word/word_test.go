package word_test

import (
	"math"
	"slices"
	"strings"
	"testing"

	"gambrel/api"
	"gambrel/word"
)

func TestCheck(t *testing.T) {
	for _, w := range good() {
		if e := word.Check(w); e != api.OK || checked(w) != api.OK {
			t.Error(show(w), e)
		}
	}
	for _, c := range wrongs() {
		if e := word.Check(c.w); e != c.e || checked(c.w) != c.e {
			t.Error(show(c.w), e, c.e)
		}
	}
}

func TestCheckOfEmptyWords(t *testing.T) {
	for _, w := range [][]mod{nil, {}, make([]mod, 0, 10), plain("#[")[:0], plain("F")[1:]} {
		if e := word.Check(w); e != api.OK {
			t.Error(show(w), e)
		}
	}
}

func TestCheckOfAllNames(t *testing.T) {
	for b := range 256 {
		name := byte(b)
		plain, pair, args, many := api.ErrBad, api.ErrBad, api.ErrBad, api.ErrBad
		switch {
		case name == '[':
			plain, pair = api.ErrOpen, api.OK
		case name == ']':
			plain, pair = api.ErrOpen, api.ErrOpen
		case strings.IndexByte(names, name) >= 0:
			plain, pair, args, many = api.OK, api.ErrOpen, api.OK, api.OK
		}
		for _, c := range []struct {
			w    []mod
			want api.Errno
		}{
			{[]mod{{Name: name}}, plain}, {[]mod{{Name: name, Args: []int{}}}, plain}, {[]mod{{Name: name, Args: []int{9}[:0]}}, plain},
			{[]mod{with(name), with(']')}, pair}, {[]mod{with(name, 0)}, args}, {[]mod{with(name, 1, -1)}, args}, {[]mod{with(name, 1, 2, 3, 4)}, many}, {[]mod{with(name, 1, 2, 3, 4, 5)}, api.ErrBad},
		} {
			if e := word.Check(c.w); e != c.want || checked(c.w) != c.want {
				t.Errorf("%q %s %v %v", name, show(c.w), e, c.want)
			}
		}
	}
}

func TestCheckOfArgs(t *testing.T) {
	for n := range 12 {
		for at := range n {
			for arg, fine := range map[int]bool{
				0: true, 1: true, -1: true, api.MaxCoef: true, api.MaxArg - 1: true, api.MaxArg: true, api.MaxArg + 1: false, 1 - api.MaxArg: true, -api.MaxArg: true, -api.MaxArg - 1: false,
				math.MaxInt: false, math.MinInt: false, math.MinInt + 1: false, math.MaxInt32: false, math.MinInt32: false, 1 << 32: false, 1<<32 + 1: false, -1<<32 - 1: false,
			} {
				m := with('F', slices.Repeat([]int{3}, n)...)
				m.Args[at] = arg
				want := api.ErrBad
				if fine && n <= api.MaxArgs {
					want = api.OK
				}
				if e := word.Check([]mod{m}); e != want {
					t.Error(show([]mod{m}), e)
				}
			}
		}
	}
}

func TestFunctionsOfEmptyWords(t *testing.T) {
	for _, w := range [][]mod{nil, {}, make([]mod, 0, 10), plain("#[")[:0]} {
		if depth, e := word.Depth(w); depth != 0 || e != api.OK {
			t.Error(depth, e)
		}
		if trunk, e := word.Strip(w); !is(trunk, e, nil) {
			t.Error(show(trunk), e)
		}
		if text, e := word.Text(w); text != "" || e != api.OK {
			t.Error(text, e)
		}
		for _, i := range []int{-1, 0, 1} {
			if other, e := word.Close(w, i); other != 0 || e != api.ErrArg {
				t.Error(i, other, e)
			}
		}
		if len(word.Twin(w)) != 0 || word.Count(w, '#') != 0 || word.Count(w, 0) != 0 {
			t.Error("not empty")
		}
	}
	if w, e := word.Parse(""); !is(w, e, nil) {
		t.Error(show(w), e)
	}
}

// All words of a few modules, valid ones and others.
func TestCheckOfAllShortWords(t *testing.T) {
	modules := []mod{with('F'), with('+', 1), with('['), with(']'), with('[', 1), with(']', 0), with('#'), with('F', 1, 2, 3, 4, 5), with('F', api.MaxArg+1)}
	var walk func(w []mod, length int)
	walk = func(w []mod, length int) {
		if e := word.Check(w); e != checked(w) {
			t.Error(show(w), e)
		}
		if length > 0 {
			for _, m := range modules {
				walk(append(slices.Clone(w), m), length-1)
			}
		}
	}
	walk(nil, 4)
}

// All words of modules without Args: a letter and the brackets.
func TestCheckOfAllBrackets(t *testing.T) {
	valid := 0
	for _, s := range bracketed() {
		want := api.ErrOpen
		if matching(s) {
			want = api.OK
			valid++
		}
		if e := word.Check(plain(s)); e != want {
			t.Error(s, e)
		}
	}
	if valid < 1000 {
		t.Error(valid)
	}
}

// bracketed returns all strings of up to 9 bytes F, [ and ], and of up to 14 brackets.
func bracketed() []string {
	var list []string
	var walk func(s, bytes string, length int)
	walk = func(s, bytes string, length int) {
		list = append(list, s)
		if length > 0 {
			for i := range bytes {
				walk(s+bytes[i:i+1], bytes, length-1)
			}
		}
	}
	walk("", "F[]", 9)
	walk("", "[]", 14)
	return list
}

// Of several errors, the first one that the chapter names comes first, wherever in the word it is.
func TestErrorsComeInOrder(t *testing.T) {
	long := strings.Repeat("F", 1998)
	for _, c := range []struct {
		w    []mod
		want api.Errno
	}{
		{plain("]#"), api.ErrBad}, {plain("#]"), api.ErrBad}, {plain("[#"), api.ErrBad}, {plain("#["), api.ErrBad}, {plain("]F["), api.ErrOpen},
		{plain("[" + long + "#"), api.ErrBad}, {plain("]" + long + "#"), api.ErrBad}, {plain("#" + long + "]"), api.ErrBad},
		{plain("[" + long + "F#"), api.ErrMany}, {plain("]" + long + "F#"), api.ErrMany}, {plain("#" + long + "F]"), api.ErrMany}, {plain("#" + long + "FF"), api.ErrMany}, {plain(long + "FF]"), api.ErrMany},
		{append(plain("]"), with('F', 1, 2, 3, 4, 5)), api.ErrBad}, {append(plain("["), with(']', 1)), api.ErrBad}, {append(plain("]"), with('F', api.MaxArg+1)), api.ErrBad},
	} {
		if e := word.Check(c.w); e != c.want {
			t.Error(show(c.w), e, c.want)
		}
	}
}

func TestFunctionsReturnTheErrorOfCheckFirst(t *testing.T) {
	for _, c := range wrongs() {
		for _, i := range []int{0, 1, -1, len(c.w), math.MinInt, math.MaxInt} {
			if at, e := word.Close(c.w, i); at != 0 || e != c.e {
				t.Error(show(c.w), i, at, e)
			}
		}
		if depth, e := word.Depth(c.w); depth != 0 || e != c.e {
			t.Error(show(c.w), depth, e)
		}
		if trunk, e := word.Strip(c.w); !none(trunk, e, c.e) {
			t.Error(show(c.w, trunk), e)
		}
		if text, e := word.Text(c.w); text != "" || e != c.e {
			t.Error(show(c.w), text, e)
		}
		for _, w := range [][]mod{nil, plain("F[F]"), plain(strings.Repeat("F", 2000))} {
			if joined, e := word.Join(c.w, w); !none(joined, e, c.e) {
				t.Error(show(c.w, w, joined), e)
			}
			if joined, e := word.Join(w, c.w); !none(joined, e, c.e) {
				t.Error(show(w, c.w, joined), e)
			}
		}
	}
}

// The error of the first word that has one, whatever the second one has.
func TestJoinOfTwoWrongWords(t *testing.T) {
	for _, c := range fewWrongs() {
		for _, d := range fewWrongs() {
			if joined, e := word.Join(c.w, d.w); !none(joined, e, c.e) {
				t.Error(show(c.w, d.w, joined), e)
			}
		}
	}
}

// Joined, brackets would match.
func TestJoinOfPartsOfAWord(t *testing.T) {
	for _, c := range [][2]string{{"[", "]"}, {"F[F", "F]F"}, {"[[]", "]"}, {"[", "[]]"}, {"]", "["}} {
		if joined, e := word.Join(plain(c[0]), plain(c[1])); !none(joined, e, api.ErrOpen) {
			t.Error(c, show(joined), e)
		}
	}
}

func TestJoin(t *testing.T) {
	for _, a := range good() {
		for _, b := range good() {
			joined, e := word.Join(a, b)
			if len(a)+len(b) > api.MaxWord {
				if !none(joined, e, api.ErrMany) {
					t.Error(show(a, b, joined), e)
				}
			} else if !is(joined, e, slices.Concat(a, b)) {
				t.Error(show(a, b, joined), e)
			}
		}
	}
}

func TestJoinToMaxWord(t *testing.T) {
	whole := slices.Concat(times(plain("F"), 1998), plain("[]F"))
	for _, n := range []int{0, 1, 2, 999, 1000, 1001, 1998, 1999, 2000} {
		for _, m := range []int{2000 - n, 2001 - n} {
			a, b := plain(strings.Repeat("F", n)), plain(strings.Repeat("+", m))
			want := slices.Concat(a, b)
			joined, e := word.Join(a, b)
			if m > api.MaxWord || n+m > api.MaxWord {
				if !none(joined, e, api.ErrMany) {
					t.Error(n, m, show(joined), e)
				}
			} else if !is(joined, e, want) {
				t.Error(n, m, show(joined), e)
			}
		}
	}
	if joined, e := word.Join(whole[:2000], nil); !is(joined, e, whole[:2000]) {
		t.Error(show(joined), e)
	}
	if joined, e := word.Join(whole[1998:2000], whole[:1998]); !is(joined, e, slices.Concat(plain("[]"), whole[:1998])) {
		t.Error(show(joined), e)
	}
	if joined, e := word.Join(whole[:2000], whole[2000:]); !none(joined, e, api.ErrMany) {
		t.Error(show(joined), e)
	}
}

func TestJoinOfEmptyWords(t *testing.T) {
	for _, a := range [][]mod{nil, {}} {
		for _, b := range [][]mod{nil, {}} {
			if joined, e := word.Join(a, b); !is(joined, e, nil) {
				t.Error(show(joined), e)
			}
		}
		for _, w := range [][]mod{plain("F[F]"), {with('F', 1)}} {
			if joined, e := word.Join(a, w); !is(joined, e, w) {
				t.Error(show(joined), e)
			}
			if joined, e := word.Join(w, a); !is(joined, e, w) {
				t.Error(show(joined), e)
			}
		}
	}
}

func TestCount(t *testing.T) {
	words := append(good(), nil, []mod{}, plain("\x00\x00\xff\x80\x80\x80"), []mod{with('F', 'F', 'G'), with('F'), with(0, 0), with('[', '[')})
	for _, c := range wrongs() {
		words = append(words, c.w)
	}
	for i, w := range words {
		counts := [256]int{}
		for _, m := range w {
			counts[m.Name]++
		}
		for name, want := range counts {
			// Of most words only some names, as there are many.
			if i%40 != 0 && name%16 != i%16 && want == 0 {
				continue
			}
			if n := word.Count(w, byte(name)); n != want {
				t.Errorf("%s %q: %d %d", show(w), byte(name), n, want)
			}
		}
	}
}

func TestCountOfBrackets(t *testing.T) {
	for _, c := range []struct {
		s    string
		name byte
		want int
	}{{"", '[', 0}, {"F", '[', 0}, {"F", 'F', 1}, {"F", 'f', 0}, {"[]", '[', 1}, {"[]", ']', 1}, {"[]", 'F', 0}, {"[]", '(', 0}, {"[[][]]", '[', 3}, {"[[][]]", ']', 3}, {"]]]", ']', 3}, {"]]]", '[', 0}, {"F[F]F", 'F', 3}, {"[[F]]", 'F', 1}, {strings.Repeat("[", 100000), '[', 100000}} {
		if n := word.Count(plain(c.s), c.name); n != c.want {
			t.Errorf("%.50s %q %d", c.s, c.name, n)
		}
	}
}
