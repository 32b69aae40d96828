package word_test

import (
	"fmt"
	"math"
	"math/rand"
	"regexp"
	"slices"
	"strings"

	"gambrel/api"
)

type mod = api.Module

// names are those that modules may have.
const names = "ABCDEFGHIJKLMNOPQRSTUVWXYZabcdefghijklmnopqrstuvwxyz+-&^|![]"

func with(name byte, args ...int) mod {
	return mod{Name: name, Args: args}
}

// plain returns the word of modules without Args whose names are the bytes of s.
func plain(s string) []mod {
	var w []mod
	for _, name := range []byte(s) {
		w = append(w, mod{Name: name})
	}
	return w
}

// times returns the word that is w so many times.
func times(w []mod, n int) []mod {
	return slices.Repeat(w, n)
}

// wide returns a module with a text of 50 bytes, the longest one.
func wide() mod {
	return with('F', -api.MaxArg, -api.MaxArg, -api.MaxArg, -api.MaxArg)
}

// written returns the text of a word, found without the program.
func written(w []mod) string {
	var b strings.Builder
	for _, m := range w {
		b.WriteByte(m.Name)
		for i, arg := range m.Args {
			fmt.Fprintf(&b, "%c%d", "(,"[min(i, 1)], arg)
		}
		if len(m.Args) > 0 {
			b.WriteByte(')')
		}
	}
	return b.String()
}

// show writes words for messages, of long ones only a part.
func show(words ...[]mod) string {
	s := ""
	for _, w := range words {
		s += fmt.Sprintf(" %d:%.200q", len(w), written(w[:min(len(w), 30)]))
	}
	return s
}

func identical(a, b []mod) bool {
	return slices.EqualFunc(a, b, func(m, n mod) bool { return m.Name == n.Name && slices.Equal(m.Args, n.Args) })
}

// is reports whether a result is a word, without an error.
func is(w []mod, e api.Errno, want []mod) bool {
	return e == api.OK && identical(w, want)
}

// none reports whether a result is an error, without a word.
func none(w []mod, e, want api.Errno) bool {
	return e == want && len(w) == 0
}

var innermost = regexp.MustCompile(`\[[^\[\]]*\]`)

// trunkOf takes the innermost brackets with all between them out of a text, until there are none, and returns the rest and how often it did: it is as often as brackets are open at a time.
func trunkOf(text string) (rest string, rounds int) {
	for innermost.MatchString(text) {
		text = innermost.ReplaceAllString(text, "")
		rounds++
	}
	return text, rounds
}

// matching reports whether the brackets of a text match.
func matching(text string) bool {
	rest, _ := trunkOf(text)
	return !strings.ContainsAny(rest, "[]")
}

// checked is the definition of Check.
func checked(w []mod) api.Errno {
	if len(w) > api.MaxWord {
		return api.ErrMany
	}
	if slices.ContainsFunc(w, func(m mod) bool { return !proper(m) }) {
		return api.ErrBad
	}
	if !matching(written(w)) {
		return api.ErrOpen
	}
	return api.OK
}

func proper(m mod) bool {
	most := api.MaxArgs
	if m.Name == '[' || m.Name == ']' {
		most = 0
	}
	outside := func(arg int) bool { return max(arg, -api.MaxArg) != min(arg, api.MaxArg) }
	return strings.IndexByte(names, m.Name) >= 0 && len(m.Args) <= most && !slices.ContainsFunc(m.Args, outside)
}

// good returns valid words, all of them different: ordinary ones, and ones at the limits.
func good() [][]mod {
	words := [][]mod{nil, slices.Concat([]mod{with('F', 1, -2)}, plain("[+F]F")), {with('A', 0)}, {with('A', 0, 0)}, {with('A', 0, 0, 0)}, {with('A', 0, 0, 0, 0)}, {with('-', -5), with('+', 5)}, {with('!', 1, 2, 3, 4)}, {with('!', 4, 3, 2, 1)}}
	for _, name := range []byte(names[:len(names)-2]) {
		words = append(words, []mod{with(name)}, []mod{with(name, 7)})
	}
	for _, s := range []string{
		"FF", "FG", "GF", "FFF", "F-F", "Ff", "[]", "[][]", "[[]]", "[][][]", "[[]][]", "[][[]]", "[[][]]", "[[[]]]", "[F]", "F[]", "[]F", "F[]F", "[F]F", "F[F]", "F[F]F", "[[F]]", "[F[]]", "[[]F]", "[F[F]F]", "F[+F][-F]F", "A[B[C[D]E]F]G", "A[B][C[D][E]]F[G]", "a[b]c[[d]e]f",
		strings.Repeat("[", 30) + "F" + strings.Repeat("]", 30), strings.Repeat("[", 1000) + strings.Repeat("]", 1000), strings.Repeat("[", 999) + "FG" + strings.Repeat("]", 999), strings.Repeat("F[", 500) + "G" + strings.Repeat("]H", 400) + strings.Repeat("]", 100),
		strings.Repeat("[]", 1000), strings.Repeat("[[]]", 500), strings.Repeat("[F]G", 500), strings.Repeat("[F]", 666) + "XY", strings.Repeat("F", 1999), strings.Repeat("F", 2000), strings.Repeat("+", 2000), "[" + strings.Repeat("F", 1998) + "]", strings.Repeat("F", 1998) + "[]", "[]" + strings.Repeat("F", 1998),
	} {
		words = append(words, plain(s))
	}
	for _, arg := range []int{1, -1, 9, 10, -10, api.MaxArg - 1, 1 - api.MaxArg, api.MaxArg, -api.MaxArg} {
		words = append(words, []mod{with('F', arg)}, []mod{with('F', arg, 0)}, []mod{with('F', 0, arg)}, []mod{with('F', 0, 0, arg, 0)}, []mod{with('F', 0, 0, 0, arg)}, []mod{with('F', arg, arg, arg, arg), with('['), with('|', arg), with(']')})
	}
	r := rand.New(rand.NewSource(6))
	for n := 8; n < 60; n++ {
		words = append(words, random(r, n), random(r, n))
	}
	return append(words, random(r, 1500), times([]mod{wide()}, 1000))
}

// letters are the names that random words have.
const letters = "FGf+-&^|!"

// random returns a valid word of n modules, with brackets and Args.
func random(r *rand.Rand, n int) []mod {
	var w []mod
	for open := 0; len(w) < n; {
		left := n - len(w)
		switch k := r.Intn(6); {
		case open > 0 && (open == left || k == 0):
			w = append(w, with(']'))
			open--
		case open+2 <= left && k <= 2:
			w = append(w, with('['))
			open++
		default:
			var args []int
			for range max(0, r.Intn(9)-4) {
				args = append(args, r.Intn(2*api.MaxArg+1)-api.MaxArg)
			}
			w = append(w, with(letters[r.Intn(len(letters))], args...))
		}
	}
	return w
}

// badModules returns modules that are not valid.
func badModules() []mod {
	var list []mod
	for b := range 256 {
		if strings.IndexByte(names, byte(b)) < 0 {
			list = append(list, with(byte(b)), with(byte(b), 1))
		}
	}
	for _, name := range []byte("AZaz+-&^|!") {
		list = append(list, with(name, 1, 2, 3, 4, 5), with(name, 0, 0, 0, 0, 0), with(name, make([]int, 1000)...))
		for _, arg := range []int{api.MaxArg + 1, -api.MaxArg - 1, math.MaxInt, math.MinInt, 1 << 32, -1 << 32, 1<<32 + 1, 1 << 62} {
			for n := 1; n <= api.MaxArgs; n++ {
				for at := range n {
					m := with(name, make([]int, n)...)
					m.Args[at] = arg
					list = append(list, m)
				}
			}
		}
	}
	for _, name := range []byte("[]") {
		list = append(list, with(name, 0), with(name, 1), with(name, 1, 2), with(name, 1, 2, 3, 4), with(name, 1, 2, 3, 4, 5), with(name, math.MinInt))
	}
	return list
}

// bad returns words with a module that is not valid. The brackets match in some and do not in others.
func bad() [][]mod {
	var words [][]mod
	for i, m := range badModules() {
		words = append(words, []mod{m}, []mod{with('F'), m, with('G', 1)}, []mod{with('['), m, with(']')})
		for _, s := range []string{"[", "]", "][", "F[F", "[]", "[F]"} {
			if i%7 == 0 {
				words = append(words, append(plain(s), m), append([]mod{m}, plain(s)...))
			}
		}
	}
	m := with('#')
	return append(words, append(plain(strings.Repeat("F", 1999)), m), append([]mod{m}, plain(strings.Repeat("[", 1999))...), append(plain(strings.Repeat("]", 1999)), m), times([]mod{m}, 2000), []mod{with('[', 1), with(']', 1)}, []mod{with('[', 1), with('F'), with(']')}, []mod{with('['), with('F'), with(']', 1)})
}

// open returns words of valid modules whose brackets do not match.
func open() [][]mod {
	words := [][]mod{{with('F', 1, -2), with('[')}, {with(']'), with('F', 1, -2)}, {with(']'), with('F', 1, -2), with('[')}}
	for _, s := range []string{
		"[", "]", "[[", "]]", "][", "[]]", "[[]", "][]", "[][", "]][[", "[]][", "][][", "][[]", "[[[]]", "[[]]]", "F[", "F]", "[F", "]F", "]F[", "[F]]", "[[F]", "[F]F]F", "F[F[F]F", "[F][G]]", "[[F][G]", "[]]F[[]", "[][][][", "][][][]", "[]]]]", "[[[[]",
		strings.Repeat("[", 2000), strings.Repeat("]", 2000), strings.Repeat("[", 1000) + strings.Repeat("]", 999), strings.Repeat("[", 999) + strings.Repeat("]", 1000), strings.Repeat("]", 1000) + strings.Repeat("[", 1000), strings.Repeat("][", 1000), strings.Repeat("[]", 999) + "[", strings.Repeat("[]", 999) + "]", strings.Repeat("[]", 999) + "][", "[" + strings.Repeat("[]", 999), "]" + strings.Repeat("[]", 999),
		strings.Repeat("F", 1999) + "[", strings.Repeat("F", 1999) + "]", "[" + strings.Repeat("F", 1999), "]" + strings.Repeat("F", 1999),
		// As many of one as of the other, or so many that they do not fit into 8 bits.
		strings.Repeat("[", 256), strings.Repeat("]", 256), strings.Repeat("[", 512) + "F", strings.Repeat("[]", 200) + "][", strings.Repeat("[", 500) + strings.Repeat("]", 501) + "[",
	} {
		words = append(words, plain(s))
	}
	return words
}

// excessive returns words of too many modules; some of them are not valid otherwise, either.
func excessive() [][]mod {
	var words [][]mod
	for _, s := range []string{strings.Repeat("F", 2001), strings.Repeat("F", 2002), strings.Repeat("[", 2001), strings.Repeat("]", 2001), strings.Repeat("[]", 1001), strings.Repeat("[", 1001) + strings.Repeat("]", 1001), "[" + strings.Repeat("F", 1999) + "]", "#" + strings.Repeat("F", 2000), strings.Repeat("F", 2000) + "#", strings.Repeat("F", 2000) + "[", strings.Repeat("\x00", 2001), strings.Repeat("F", 1000000)} {
		words = append(words, plain(s))
	}
	return append(words, times([]mod{with('[', 1)}, 2001), times([]mod{with('F', 1, 2, 3, 4, 5)}, 2001), times([]mod{wide()}, 2001), make([]mod, 2001), make([]mod, 1<<20))
}

// wrong is a word with its error.
type wrong struct {
	w []mod
	e api.Errno
}

// wrongs returns all words that are not valid.
func wrongs() []wrong {
	var list []wrong
	for _, w := range bad() {
		list = append(list, wrong{w, api.ErrBad})
	}
	for _, w := range open() {
		list = append(list, wrong{w, api.ErrOpen})
	}
	for _, w := range excessive() {
		list = append(list, wrong{w, api.ErrMany})
	}
	return list
}

// fewWrongs returns words that are not valid, some for each error.
func fewWrongs() []wrong {
	return []wrong{
		{plain("#"), api.ErrBad}, {plain("F#["), api.ErrBad}, {plain("]\x80"), api.ErrBad}, {[]mod{with('F', api.MaxArg+1)}, api.ErrBad}, {[]mod{with('[', 1), with(']')}, api.ErrBad}, {[]mod{with('F', 1, 2, 3, 4, 5)}, api.ErrBad},
		{plain("["), api.ErrOpen}, {plain("]"), api.ErrOpen}, {plain("]["), api.ErrOpen}, {plain("F[F"), api.ErrOpen},
		{plain(strings.Repeat("F", 2001)), api.ErrMany}, {plain(strings.Repeat("[", 2001)), api.ErrMany}, {make([]mod, 2001), api.ErrMany},
	}
}
