package rewrite_test

import (
	"fmt"
	"math"
	"math/big"
	"math/rand"
	"slices"
	"strings"

	"gambrel/api"
	"gambrel/word"
)

type (
	mod   = api.Module
	form  = api.Form
	shape = api.Shape
	rule  = api.Rewrite
)

// names are those that modules may have, but for brackets.
const names = "ABCDEFGHIJKLMNOPQRSTUVWXYZabcdefghijklmnopqrstuvwxyz+-&^|!"

func with(name byte, args ...int) mod {
	return mod{Name: name, Args: args}
}

// plain returns the word of modules without Args whose names are the bytes of s.
func plain(s string) []mod {
	var w []mod
	for _, name := range []byte(s) {
		w = append(w, mod{Name: name})
	}
	return w
}

// read returns the word with a text.
func read(s string) []mod {
	w, e := word.Parse(s)
	if e != api.OK {
		panic(s)
	}
	return w
}

// sum returns the form with a Const and Coefs.
func sum(constant int, coefs ...int) form {
	return form{Const: constant, Coefs: coefs}
}

func put(name byte, args ...form) shape {
	return shape{Name: name, Args: args}
}

// bare returns shapes without Args whose names are the bytes of s.
func bare(s string) []shape {
	var out []shape
	for _, name := range []byte(s) {
		out = append(out, shape{Name: name})
	}
	return out
}

// to returns a rule without guards.
func to(name byte, arity int, out ...shape) rule {
	return rule{Name: name, Arity: arity, Out: out}
}

// when returns r with guards.
func when(r rule, guards ...form) rule {
	r.Guards = guards
	return r
}

// letters returns the rule for a letter without Args whose Out has the names of s.
func letters(name byte, s string) rule {
	return to(name, 0, bare(s)...)
}

// tree returns the rules of the chapter's example: A(x) becomes F(x)[+A(x - 1)] where x is at least 1, and F(0) otherwise.
func tree() []rule {
	return []rule{
		when(to('A', 1, put('F', sum(0, 1)), put('['), put('+'), put('A', sum(-1, 1)), put(']')), sum(-1, 1)),
		to('A', 1, put('F', sum(0, 0))),
	}
}

// show writes words for messages, of long ones only a part.
func show(words ...[]mod) string {
	s := ""
	for _, w := range words {
		s += fmt.Sprintf(" %d:%s", len(w), brief(w[:min(len(w), 30)]))
	}
	return s
}

// brief writes anything for messages, of what is long only a part.
func brief(v any) string {
	return fmt.Sprintf("%.300s", fmt.Sprint(v))
}

func identical(a, b []mod) bool {
	return slices.EqualFunc(a, b, func(m, n mod) bool { return m.Name == n.Name && slices.Equal(m.Args, n.Args) })
}

// is reports whether a result is a word, without an error.
func is(w []mod, e api.Errno, want []mod) bool {
	return e == api.OK && identical(w, want)
}

// none reports whether a result is an error, without a word.
func none(w []mod, e, want api.Errno) bool {
	return e == want && len(w) == 0
}

// agrees reports whether a result is the word and the error that are wanted.
func agrees(w []mod, e api.Errno, want []mod, wantError api.Errno) bool {
	return e == wantError && identical(w, want)
}

func outside(n, most int) bool {
	return max(n, -most) != min(n, most)
}

// matching reports whether the brackets of a string match.
func matching(s string) bool {
	s = strings.Map(func(r rune) rune {
		if r == '[' || r == ']' {
			return r
		}
		return -1
	}, s)
	for strings.Contains(s, "[]") {
		s = strings.ReplaceAll(s, "[]", "")
	}
	return s == ""
}

// formOf reports whether a form is valid for a number of arguments.
func formOf(f form, arity int) bool {
	return len(f.Coefs) == arity && !outside(f.Const, api.MaxCoef) && !slices.ContainsFunc(f.Coefs, func(c int) bool { return outside(c, api.MaxCoef) })
}

// wrongForm reports whether one of the forms is not valid.
func wrongForm(forms []form, arity int) bool {
	return slices.ContainsFunc(forms, func(f form) bool { return !formOf(f, arity) })
}

// checked is the definition of Check.
func checked(rules []rule) api.Errno {
	if len(rules) > api.MaxRules || slices.ContainsFunc(rules, func(r rule) bool { return len(r.Guards) > api.MaxGuards || len(r.Out) > api.MaxOut }) {
		return api.ErrMany
	}
	if slices.ContainsFunc(rules, wrongRule) {
		return api.ErrBad
	}
	return api.OK
}

func wrongRule(r rule) bool {
	text := ""
	for _, s := range r.Out {
		most := api.MaxArgs
		if s.Name == '[' || s.Name == ']' {
			most = 0
		}
		if strings.IndexByte(names+"[]", s.Name) < 0 || len(s.Args) > most || wrongForm(s.Args, r.Arity) {
			return true
		}
		text += string(rune(s.Name))
	}
	return strings.IndexByte(names, r.Name) < 0 || r.Arity < 0 || r.Arity > api.MaxArgs || r.Left != 0 || r.Right != 0 || r.Weight != 0 || wrongForm(r.Guards, r.Arity) || !matching(text)
}

// worth is the value of a form, in integers of any size.
func worth(f form, args []int) *big.Int {
	v := big.NewInt(int64(f.Const))
	for i, coef := range f.Coefs {
		v.Add(v, new(big.Int).Mul(big.NewInt(int64(coef)), big.NewInt(int64(args[i]))))
	}
	return v
}

// valued is the definition of Value.
func valued(f form, args []int) (int, api.Errno) {
	if !formOf(f, len(args)) || len(args) > api.MaxArgs || slices.ContainsFunc(args, func(a int) bool { return outside(a, api.MaxArg) }) {
		return 0, api.ErrBad
	}
	v := worth(f, args)
	if v.CmpAbs(big.NewInt(api.MaxArg)) > 0 {
		return 0, api.ErrRange
	}
	return int(v.Int64()), api.OK
}

// found is the definition of Find for valid rules and a valid module.
func found(rules []rule, m mod) int {
	return slices.IndexFunc(rules, func(r rule) bool {
		return r.Name == m.Name && r.Arity == len(m.Args) && !slices.ContainsFunc(r.Guards, func(g form) bool { return worth(g, m.Args).Sign() < 0 })
	})
}

// stepped is the definition of Step for valid rules and a valid word.
func stepped(rules []rule, w []mod) ([]mod, api.Errno) {
	var next []mod
	for _, m := range w {
		i := found(rules, m)
		if i < 0 {
			next = append(next, m)
			continue
		}
		for _, s := range rules[i].Out {
			n := mod{Name: s.Name}
			for _, f := range s.Args {
				v, e := valued(f, m.Args)
				if e != api.OK {
					return nil, e
				}
				n.Args = append(n.Args, v)
			}
			next = append(next, n)
		}
	}
	if len(next) > api.MaxWord {
		return nil, api.ErrMany
	}
	return next, api.OK
}

// ran is the definition of Run for valid rules, a valid word and a number of steps that is allowed.
func ran(rules []rule, w []mod, n int) ([]mod, api.Errno) {
	for range n {
		next, e := stepped(rules, w)
		if e != api.OK {
			return nil, e
		}
		w = next
	}
	return w, api.OK
}

// integers are numbers at the edges of the types of which only few bits may be looked at.
var integers = []int{math.MinInt, math.MinInt + 1, math.MaxInt, math.MinInt32, math.MinInt32 - 1, math.MaxInt32, math.MaxInt32 + 1, 1 << 32, 1<<32 + 1, -1 << 32, -1<<32 - 1, 1 << 62, -1 << 62, 1 << 63 >> 1}

// beside returns numbers that are not from -most to most.
func beside(most int) []int {
	list := []int{most + 1, -most - 1, most + 2, -most - 2, 2 * most, -2 * most, most + 1<<32, most - 1<<32}
	for _, n := range integers {
		if outside(n, most) {
			list = append(list, n)
		}
	}
	return list
}

// shapesOf returns so many shapes, with Args for an arity.
func shapesOf(n, arity int) []shape {
	var out []shape
	for i := range n {
		out = append(out, put("FGHIJ"[i%5], slices.Repeat([]form{sum(i, slices.Repeat([]int{i - 2}, arity)...)}, i%5)...))
	}
	return out
}

// largest returns valid rules with as many of everything as there may be.
func largest() []rule {
	var rules []rule
	for i := range api.MaxRules {
		r := to(names[i], api.MaxArgs)
		for k := range api.MaxGuards {
			r.Guards = append(r.Guards, sum(api.MaxCoef-k, i, -api.MaxCoef, api.MaxCoef, k))
		}
		for k := range api.MaxOut {
			f := sum(k-api.MaxCoef, -k, api.MaxCoef, -api.MaxCoef, 0)
			r.Out = append(r.Out, put(names[(k+i)%len(names)], f, f, f, f))
		}
		rules = append(rules, r)
	}
	return rules
}

// goods returns valid rules: ordinary ones, and ones at the limits.
func goods() [][]rule {
	lists := [][]rule{
		nil, {}, tree(), largest(), {letters('A', "")}, {letters('A', "A")}, {letters('A', "AB"), letters('B', "A")}, {letters('A', "A[A]A")}, {letters('A', "F"), letters('A', "G")}, {letters('F', "F[+F]F[-F]F")},
		{letters('A', strings.Repeat("[", 10)+strings.Repeat("]", 10))}, {letters('A', strings.Repeat("[]", 10))}, slices.Repeat([]rule{letters('A', "B")}, 40), slices.Repeat([]rule{{Name: 'a'}}, 40),
		{to('A', 4, shapesOf(20, 4)...)}, {to('A', 0, shapesOf(20, 0)...)}, {to('A', 2, put('B', sum(0, 0, 1), sum(0, 1, 0)))}, {to('A', 0, put('B', sum(1), sum(2), sum(3), sum(4)))}, {to('A', 4, put('B'))},
		{when(letters('A', "B"), sum(-1)), when(letters('A', "C"), sum(0)), letters('A', "D")},
		{to('A', 1, put('A', sum(0, 10)))}, {to('A', 1, put('A', sum(1, 1)), put('B', sum(0, -1)))}, {when(to('A', 1, put('A', sum(1, 1)), put('A', sum(2, 1))), sum(5, -1)), to('A', 1)},
		{when(to('A', 2, put('A', sum(0, 1, 1), sum(0, 1, -1))), sum(0, 1, 1), sum(0, 1, -1)), to('A', 2, put('B', sum(0, 1, 0)))},
	}
	r := rand.New(rand.NewSource(7))
	for range 60 {
		lists = append(lists, someRules(r))
	}
	return lists
}

// someRules returns valid rules for the letters A to D, so that often several have the same name.
func someRules(r *rand.Rand) []rule {
	var rules []rule
	for range 1 + r.Intn(8) {
		n := to("ABCD"[r.Intn(4)], r.Intn(3))
		for range max(0, r.Intn(6)-3) {
			n.Guards = append(n.Guards, someForm(r, n.Arity))
		}
		for range r.Intn(4) {
			var args []form
			for range r.Intn(3) {
				args = append(args, someForm(r, n.Arity))
			}
			n.Out = append(n.Out, put("ABCDF"[r.Intn(5)], args...))
		}
		if len(n.Out) > 0 && r.Intn(3) == 0 {
			n.Out = slices.Concat(n.Out[:1], bare("["), n.Out[1:], bare("]"))
		}
		rules = append(rules, n)
	}
	return rules
}

// livelyRules returns valid rules by which most words grow.
func livelyRules(r *rand.Rand) []rule {
	var rules []rule
	for _, name := range []byte("ABC") {
		s := ""
		for range 1 + r.Intn(3) {
			s += []string{"A", "B", "C", "F", "[A]", "[BC]", "[C][F]"}[r.Intn(7)]
		}
		up := to(name, 1, put(name, sum(r.Intn(5), 1)), put('B', sum(1, r.Intn(3))))
		rules = append(rules, letters(name, s), when(up, sum(r.Intn(2000), -1)), to(name, 1, put(name, sum(0, -1))))
	}
	return rules
}

// someForm returns a form with small numbers, more often than with great ones.
func someForm(r *rand.Rand, arity int) form {
	most := []int{1, 1, 3, 3, 3, api.MaxCoef}[r.Intn(6)]
	f := sum(r.Intn(2*most+1) - most)
	for range arity {
		f.Coefs = append(f.Coefs, r.Intn(2*most+1)-most)
	}
	return f
}

// someWord returns a valid word of n modules, most of them such that rules of someRules fit.
func someWord(r *rand.Rand, n int) []mod {
	var w []mod
	for open := 0; len(w) < n; {
		left := n - len(w)
		switch k := r.Intn(8); {
		case open > 0 && (open == left || k == 0):
			w = append(w, with(']'))
			open--
		case open+2 <= left && k <= 1:
			w = append(w, with('['))
			open++
		default:
			var args []int
			for range r.Intn(3) {
				most := []int{2, 2, 5, 100, api.MaxArg}[r.Intn(5)]
				args = append(args, r.Intn(2*most+1)-most)
			}
			w = append(w, with("ABCDF"[r.Intn(5)], args...))
		}
	}
	return w
}

// words returns valid words: ordinary ones, and ones at the limits.
func words() [][]mod {
	list := [][]mod{nil, {}, read("A"), read("A(2)"), read("A(0)"), read("B[A]"), read("A(3,2)"), read("A(1,2,3,4)"), read("F(1,-2)[+F]F"), read("[[A(1)]A(2)]A(3)"), read("[][[]]"), read("A(1000000000)B(-1000000000)"), read("A(1000000000,-1000000000)"), plain(names), plain(strings.Repeat("A", 2000)), plain(strings.Repeat("[", 1000) + strings.Repeat("]", 1000)), plain(strings.Repeat("[A]B", 500)), plain(strings.Repeat("A", 100)), slices.Repeat([]mod{with('A', 1, 2, 3, 4)}, 2000)}
	r := rand.New(rand.NewSource(77))
	for n := range 40 {
		list = append(list, someWord(r, n+1))
	}
	return append(list, someWord(r, 700), someWord(r, 1999), someWord(r, 2000))
}

// badModules returns modules that are not valid.
func badModules() []mod {
	list := []mod{with('[', 0), with(']', 0), with('[', 1, 2), with(']', 1, 2, 3, 4), with('A', 1, 2, 3, 4, 5), with('F', make([]int, 1000)...)}
	for b := range 256 {
		if strings.IndexByte(names+"[]", byte(b)) < 0 {
			list = append(list, with(byte(b)), with(byte(b), 1))
		}
	}
	for _, arg := range beside(api.MaxArg) {
		for n := 1; n <= api.MaxArgs; n++ {
			for at := range n {
				m := with('A', make([]int, n)...)
				m.Args[at] = arg
				list = append(list, m)
			}
		}
	}
	return list
}

// wrongWord is a word with its error.
type wrongWord struct {
	w []mod
	e api.Errno
}

func wrongWords() []wrongWord {
	list := []wrongWord{
		{plain("["), api.ErrOpen}, {plain("]"), api.ErrOpen}, {plain("]["), api.ErrOpen}, {plain("A[A"), api.ErrOpen}, {plain("A]A"), api.ErrOpen}, {plain("[]]"), api.ErrOpen}, {plain(strings.Repeat("A", 1999) + "["), api.ErrOpen},
		{plain("#"), api.ErrBad}, {plain("[#"), api.ErrBad}, {plain(strings.Repeat("A", 1999) + "#"), api.ErrBad},
		{plain(strings.Repeat("A", 2001)), api.ErrMany}, {plain(strings.Repeat("[", 2001)), api.ErrMany}, {make([]mod, 2001), api.ErrMany}, {plain("#" + strings.Repeat("A", 2000)), api.ErrMany}, {plain(strings.Repeat("A", 100000)), api.ErrMany},
	}
	for _, m := range badModules() {
		list = append(list, wrongWord{[]mod{m}, api.ErrBad}, wrongWord{[]mod{with('A'), m, with('A', 1)}, api.ErrBad})
	}
	return list
}
