package context_test

import (
	"fmt"
	"math"
	"math/rand"
	"slices"
	"strings"

	"gambrel/api"
	"gambrel/word"
)

type (
	mod   = api.Module
	form  = api.Form
	shape = api.Shape
	rule  = api.Rewrite
)

// names are those that modules may have, but for brackets.
const names = "ABCDEFGHIJKLMNOPQRSTUVWXYZabcdefghijklmnopqrstuvwxyz+-&^|!"

const top = api.MaxArg

func with(name byte, args ...int) mod {
	return mod{Name: name, Args: args}
}

// plain returns the word of modules without Args whose names are the bytes of s.
func plain(s string) []mod {
	var w []mod
	for _, name := range []byte(s) {
		w = append(w, mod{Name: name})
	}
	return w
}

// read returns the word with a text.
func read(s string) []mod {
	w, e := word.Parse(s)
	if e != api.OK {
		panic(s)
	}
	return w
}

// sum returns the form with a Const and Coefs.
func sum(constant int, coefs ...int) form {
	return form{Const: constant, Coefs: coefs}
}

func put(name byte, args ...form) shape {
	return shape{Name: name, Args: args}
}

// to returns a rule without guards.
func to(name byte, arity int, out ...shape) rule {
	return rule{Name: name, Arity: arity, Out: out}
}

// letters returns the rule for a letter without Args whose Out has the names of s.
func letters(name byte, s string) rule {
	r := rule{Name: name}
	for _, b := range []byte(s) {
		r.Out = append(r.Out, shape{Name: b})
	}
	return r
}

// when returns r with guards.
func when(r rule, guards ...form) rule {
	r.Guards = guards
	return r
}

// beside returns r with a Left and a Right.
func beside(left byte, r rule, right byte) rule {
	r.Left, r.Right = left, right
	return r
}

// signal returns the rules of the chapter's example, by which a B wanders to the right.
func signal() []rule {
	return []rule{beside('B', letters('A', "B"), 0), letters('B', "A")}
}

// brief writes anything for messages, of what is long only a part.
func brief(v any) string {
	return fmt.Sprintf("%.300s", fmt.Sprint(v))
}

// show writes words for messages, of long ones only a part.
func show(words ...[]mod) string {
	s := ""
	for _, w := range words {
		s += fmt.Sprintf(" %d:", len(w))
		for _, m := range w[:min(len(w), 40)] {
			s += string(rune(m.Name))
			if len(m.Args) > 0 {
				s += brief(m.Args)
			}
		}
	}
	return s
}

func identical(a, b []mod) bool {
	return slices.EqualFunc(a, b, func(m, n mod) bool { return m.Name == n.Name && slices.Equal(m.Args, n.Args) })
}

// is reports whether a result is a word, without an error.
func is(w []mod, e api.Errno, want []mod) bool {
	return agrees(w, e, want, api.OK)
}

// none reports whether a result is an error, without a word.
func none(w []mod, e, want api.Errno) bool {
	return agrees(w, e, nil, want)
}

// agrees reports whether a result is the word and the error that are wanted.
func agrees(w []mod, e api.Errno, want []mod, wantError api.Errno) bool {
	return e == wantError && identical(w, want)
}

// uncut takes, of some places of a word, all brackets away that belong to each other there, with all between them.
func uncut(w []mod, places []int) []int {
	for at := 0; at < len(places); at++ {
		if w[places[at]].Name != ']' {
			continue
		}
		for open := at - 1; open >= 0; open-- {
			if w[places[open]].Name == '[' {
				places = slices.Delete(places, open, at+1)
				at = open - 1
				break
			}
		}
	}
	return places
}

// without takes the places of some names away.
func without(w []mod, places []int, dropped string) []int {
	return slices.DeleteFunc(places, func(i int) bool { return strings.IndexByte(dropped, w[i].Name) >= 0 })
}

// leftOf is the definition of the left neighbour: the last module before that with the index i, once all branches that are closed there, the brackets that are still open, and what is ignored are taken away.
func leftOf(w []mod, i int, ignore string) int {
	var places []int
	for k := range i {
		places = append(places, k)
	}
	places = without(w, uncut(w, places), ignore+"[")
	if len(places) == 0 {
		return -1
	}
	return places[len(places)-1]
}

// rightOf is the definition of the right neighbour: the first module behind that with the index i, once all branches that are opened there, all from the end of its own branch on, and what is ignored are taken away.
func rightOf(w []mod, i int, ignore string) int {
	var places []int
	for k := i + 1; k < len(w); k++ {
		places = append(places, k)
	}
	places = uncut(w, places)
	if end := slices.IndexFunc(places, func(k int) bool { return w[k].Name == ']' }); end >= 0 {
		places = places[:end]
	}
	places = without(w, places, ignore)
	if len(places) == 0 {
		return -1
	}
	return places[0]
}

// worth is the value of a form, whatever its size.
func worth(f form, args []int) int {
	v := f.Const
	for i, coef := range f.Coefs {
		v += coef * args[i]
	}
	return v
}

// found is the definition of Find for valid arguments.
func found(rules []rule, ignore string, w []mod, i int) int {
	m := w[i]
	stands := func(name byte, find func(w []mod, i int, ignore string) int) bool {
		if name == 0 {
			return true
		}
		k := find(w, i, ignore)
		return k >= 0 && w[k].Name == name
	}
	return slices.IndexFunc(rules, func(r rule) bool {
		negative := func(g form) bool { return worth(g, m.Args) < 0 }
		return r.Name == m.Name && r.Arity == len(m.Args) && !slices.ContainsFunc(r.Guards, negative) && stands(r.Left, leftOf) && stands(r.Right, rightOf)
	})
}

// stepped is the definition of Step for valid arguments.
func stepped(rules []rule, ignore string, w []mod) ([]mod, api.Errno) {
	var next []mod
	for i, m := range w {
		k := found(rules, ignore, w, i)
		if k < 0 {
			next = append(next, m)
			continue
		}
		for _, s := range rules[k].Out {
			n := mod{Name: s.Name}
			for _, f := range s.Args {
				v := worth(f, m.Args)
				if v > top || v < -top {
					return nil, api.ErrRange
				}
				n.Args = append(n.Args, v)
			}
			next = append(next, n)
		}
	}
	if len(next) > api.MaxWord {
		return nil, api.ErrMany
	}
	return next, api.OK
}

// ran is the definition of Run for valid arguments and a number of steps that is allowed.
func ran(rules []rule, ignore string, w []mod, n int) ([]mod, api.Errno) {
	for range n {
		next, e := stepped(rules, ignore, w)
		if e != api.OK {
			return nil, e
		}
		w = next
	}
	return w, api.OK
}

// shortWords returns all valid words of at most so many modules, all of them without Args and with the names of s.
func shortWords(s string, length int) [][]mod {
	var list [][]mod
	var grow func(w []mod, open int)
	grow = func(w []mod, open int) {
		if open == 0 {
			list = append(list, slices.Clone(w))
		}
		for _, m := range plain(s) {
			next := open
			switch m.Name {
			case '[':
				next++
			case ']':
				next--
			}
			if next >= 0 && len(w)+next < length {
				grow(append(w, m), next)
			}
		}
	}
	grow(nil, 0)
	return list
}

// letterPool are the names in random words and rules: few, so that rules often fit.
const letterPool = "AAABBC+"

// someIgnores are what random calls ignore.
var someIgnores = []string{"", "", "+", "-+", "C", "B+X", "A", "ABC+-"}

// someWord returns a valid word of n modules, often with branches.
func someWord(r *rand.Rand, n int) []mod {
	var w []mod
	for open := 0; len(w) < n; {
		left := n - len(w)
		switch k := r.Intn(8); {
		case open > 0 && (open == left || k == 0):
			w = append(w, with(']'))
			open--
		case open+2 <= left && k <= 2:
			w = append(w, with('['))
			open++
		default:
			var args []int
			for range max(0, r.Intn(5)-2) {
				most := []int{2, 2, 5, 100, top}[r.Intn(5)]
				args = append(args, r.Intn(2*most+1)-most)
			}
			w = append(w, with(letterPool[r.Intn(len(letterPool))], args...))
		}
	}
	return w
}

// someForm returns a form with small numbers, more often than with great ones.
func someForm(r *rand.Rand, arity int) form {
	most := []int{1, 1, 3, 3, 3, api.MaxCoef}[r.Intn(6)]
	f := sum(r.Intn(2*most+1) - most)
	for range arity {
		f.Coefs = append(f.Coefs, r.Intn(2*most+1)-most)
	}
	return f
}

// someRules returns valid rules, most of which ask for neighbours.
func someRules(r *rand.Rand) []rule {
	var rules []rule
	pick := func() byte { return letterPool[r.Intn(len(letterPool))] }
	for range 1 + r.Intn(20) {
		n := to(pick(), max(0, r.Intn(5)-2))
		if r.Intn(2) == 0 {
			n.Left = pick()
		}
		if r.Intn(2) == 0 {
			n.Right = pick()
		}
		for range max(0, r.Intn(6)-3) {
			n.Guards = append(n.Guards, someForm(r, n.Arity))
		}
		for range r.Intn(4) {
			var args []form
			for range max(0, r.Intn(4)-1) {
				args = append(args, someForm(r, n.Arity))
			}
			n.Out = append(n.Out, put(pick(), args...))
		}
		if len(n.Out) > 0 && r.Intn(3) == 0 {
			n.Out = slices.Concat(n.Out[:1], []shape{put('[')}, n.Out[1:], []shape{put(']')})
		}
		rules = append(rules, n)
	}
	return rules
}

// livelyRules returns valid rules by which most words grow.
func livelyRules(r *rand.Rand) []rule {
	var rules []rule
	for _, name := range []byte("ABC") {
		s := ""
		for range 1 + r.Intn(3) {
			s += []string{"A", "B", "C", "+", "[A]", "[BC]", "[C][+]"}[r.Intn(7)]
		}
		up := to(name, 1, put(name, sum(r.Intn(5), 1)), put('B', sum(1, r.Intn(3))))
		rules = append(rules, beside("ABC\x00"[r.Intn(4)], letters(name, s), 0), beside(0, up, "AB\x00\x00"[r.Intn(4)]), letters(name, s+"A"))
	}
	return rules
}

// integers are numbers at the edges of the types of which only few bits may be looked at.
var integers = []int{math.MinInt, math.MinInt + 1, math.MaxInt, math.MinInt32, math.MaxInt32, math.MaxInt32 + 1, 1 << 32, 1<<32 + 1, -1 << 32, -1<<32 - 1, 1 << 62, -1 << 62}

// wrongWord is a word with its error.
type wrongWord struct {
	w []mod
	e api.Errno
}

func wrongWords() []wrongWord {
	list := []wrongWord{
		{plain("["), api.ErrOpen}, {plain("]"), api.ErrOpen}, {plain("]["), api.ErrOpen}, {plain("A[A"), api.ErrOpen}, {plain("A]A"), api.ErrOpen}, {plain("[]]"), api.ErrOpen}, {plain(strings.Repeat("A", 1999) + "["), api.ErrOpen},
		{plain("#"), api.ErrBad}, {plain("[#"), api.ErrBad}, {plain(strings.Repeat("A", 1999) + "#"), api.ErrBad}, {plain("A\x00"), api.ErrBad}, {plain("A\xff"), api.ErrBad}, {[]mod{{}}, api.ErrBad},
		{[]mod{with('[', 0), with(']')}, api.ErrBad}, {[]mod{with('['), with(']', 1)}, api.ErrBad}, {[]mod{with('A', 1, 2, 3, 4, 5)}, api.ErrBad}, {[]mod{with('A'), with('A', 0, top+1)}, api.ErrBad}, {[]mod{with('A', -top-1), with('A')}, api.ErrBad},
		{plain(strings.Repeat("A", 2001)), api.ErrMany}, {plain(strings.Repeat("[", 2001)), api.ErrMany}, {make([]mod, 2001), api.ErrMany}, {plain("#" + strings.Repeat("A", 2000)), api.ErrMany}, {plain(strings.Repeat("A", 100000)), api.ErrMany},
	}
	for _, n := range integers {
		list = append(list, wrongWord{[]mod{with('A', n)}, api.ErrBad})
	}
	return list
}

// goodIgnores are strings of names that may be ignored.
func goodIgnores() []string {
	list := []string{"", "+", "A", "z", "+-", "-+", "Aa", "aA", "+-&^|!", "!|^&-+", "FGHIJ", names[:19], names[:20], names[20:40], names[38:], names[19:39]}
	for _, b := range []byte(names) {
		list = append(list, string(b))
	}
	return list
}

// wrongIgnores are strings that are not as they should be.
func wrongIgnores() []string {
	list := []string{
		"[", "]", "[]", "][", "+[", "[+", "+]", "]-", "+[-", "A]B", names[:19] + "[", "]" + names[:19],
		"++", "AA", "+-+", "-++", "ABCA", "ABCC", "AAB", "ABB", names[:19] + "A", names[:19] + names[18:19], "!" + names[:18] + "!",
		names[:21], names[20:41], names, names[:20] + "[", names[:20] + "A", names[:20] + "#", strings.Repeat("A", 21), strings.Repeat("+", 1000), names + names, strings.Repeat(names, 1000),
		" ", "+ ", " +", "+,-", "A B", "é", "Aé", "+\n", "\x00", "A\x00", "\x00A", "\x80", "\xff", "A\xc1", string(rune('A' + 256)), string(rune('A' + 1<<16)), "Ä", "Ａ",
	}
	for b := range 256 {
		if name := byte(b); strings.IndexByte(names, name) < 0 {
			list = append(list, string([]byte{name}), "AB"+string([]byte{name}), string([]byte{name})+"+-", names[:10]+string([]byte{name})+names[10:19])
		}
	}
	return list
}
