package chance_test

import (
	"fmt"
	"math"
	"math/rand"
	"regexp"
	"slices"
	"strconv"
	"strings"

	"gambrel/api"
	"gambrel/seed"
	"gambrel/word"
)

type (
	mod   = api.Module
	form  = api.Form
	shape = api.Shape
	rule  = api.Rewrite
	cell  = api.Cell
)

// names are those that modules may have, but for brackets.
const names = "ABCDEFGHIJKLMNOPQRSTUVWXYZabcdefghijklmnopqrstuvwxyz+-&^|!"

const top = api.MaxArg

func with(name byte, args ...int) mod {
	return mod{Name: name, Args: args}
}

// plain returns the word of modules without Args whose names are the bytes of s.
func plain(s string) []mod {
	var w []mod
	for _, name := range []byte(s) {
		w = append(w, mod{Name: name})
	}
	return w
}

// read returns the word with a text.
func read(s string) []mod {
	w, e := word.Parse(s)
	if e != api.OK {
		panic(s)
	}
	return w
}

func at(path string, m mod) cell {
	return cell{Path: path, Module: m}
}

// placed returns the cells of a word with the paths that are separated by blanks.
func placed(w []mod, paths string) []cell {
	var l []cell
	for i, path := range strings.Fields(paths) {
		l = append(l, at(path, w[i]))
	}
	if len(l) != len(w) {
		panic(paths)
	}
	return l
}

// begun is the definition of Begin for a valid word.
func begun(w []mod) []cell {
	var l []cell
	for i, m := range w {
		l = append(l, at(strconv.Itoa(i), m))
	}
	return l
}

// sum returns the form with a Const and Coefs.
func sum(constant int, coefs ...int) form {
	return form{Const: constant, Coefs: coefs}
}

func put(name byte, args ...form) shape {
	return shape{Name: name, Args: args}
}

// to returns a rule without guards, of the weight 1.
func to(name byte, arity int, out ...shape) rule {
	return rule{Name: name, Arity: arity, Out: out, Weight: 1}
}

// letters returns the rule for a letter without Args whose Out has the names of s.
func letters(name byte, s string) rule {
	r := to(name, 0)
	for _, b := range []byte(s) {
		r.Out = append(r.Out, shape{Name: b})
	}
	return r
}

// when returns r with guards.
func when(r rule, guards ...form) rule {
	r.Guards = guards
	return r
}

// weigh returns r with a weight.
func weigh(weight int, r rule) rule {
	r.Weight = weight
	return r
}

// beside returns r with a Left and a Right, which no rule here may have.
func beside(left byte, r rule, right byte) rule {
	r.Left, r.Right = left, right
	return r
}

// bush returns rules of which several fit the same modules.
func bush() []rule {
	return []rule{letters('A', "BC"), letters('A', "D"), weigh(3, letters('B', "[A]B")), weigh(5, to('B', 0)), to('A', 1, put('A', sum(1, 1)))}
}

// brief writes anything for messages, of what is long only a part.
func brief(v any) string {
	return fmt.Sprintf("%.300s", fmt.Sprint(v))
}

// show writes lists of cells for messages, of long ones only a part.
func show(lists ...[]cell) string {
	s := ""
	for _, l := range lists {
		s += fmt.Sprintf(" %d:", len(l))
		for _, c := range l[:min(len(l), 20)] {
			s += fmt.Sprintf(" %.30q %c%s", c.Path, c.Module.Name, brief(c.Module.Args))
		}
	}
	return s
}

func same(a, b cell) bool {
	return a.Path == b.Path && a.Module.Name == b.Module.Name && slices.Equal(a.Module.Args, b.Module.Args)
}

func identical(a, b []cell) bool {
	return slices.EqualFunc(a, b, same)
}

// is reports whether a result are the cells, without an error.
func is(l []cell, e api.Errno, want []cell) bool {
	return agrees(l, e, want, api.OK)
}

// none reports whether a result is an error, without cells.
func none(l []cell, e, want api.Errno) bool {
	return agrees(l, e, nil, want)
}

// agrees reports whether a result are the cells and the error that are wanted.
func agrees(l []cell, e api.Errno, want []cell, wantError api.Errno) bool {
	return e == wantError && identical(l, want)
}

// modulesOf returns the modules of cells.
func modulesOf(l []cell) []mod {
	var w []mod
	for _, c := range l {
		w = append(w, c.Module)
	}
	return w
}

var proper = regexp.MustCompile(`^[0-9/]{1,200}$`)

// checked is the definition of Cells.
func checked(l []cell) api.Errno {
	if len(l) > api.MaxWord {
		return api.ErrMany
	}
	for _, c := range l {
		if !proper.MatchString(c.Path) {
			return api.ErrBad
		}
	}
	return word.Check(modulesOf(l))
}

// worth is the value of a form, whatever its size.
func worth(f form, args []int) int {
	v := f.Const
	for i, coef := range f.Coefs {
		v += coef * args[i]
	}
	return v
}

// fitting returns the rules that fit a module.
func fitting(rules []rule, m mod) []rule {
	var list []rule
	for _, r := range rules {
		negative := func(g form) bool { return worth(g, m.Args) < 0 }
		if r.Name == m.Name && r.Arity == len(m.Args) && !slices.ContainsFunc(r.Guards, negative) {
			list = append(list, r)
		}
	}
	return list
}

// become is the definition of One for valid arguments.
func become(rules []rule, from int64, c cell) ([]cell, api.Errno) {
	fits := fitting(rules, c.Module)
	if len(fits) == 0 {
		return []cell{c}, api.OK
	}
	var weights []int
	for _, r := range fits {
		weights = append(weights, r.Weight)
	}
	k, e := seed.Choose(from, c.Path, weights)
	if e != api.OK {
		panic(e)
	}
	var l []cell
	for i, s := range fits[k].Out {
		n := mod{Name: s.Name}
		for _, f := range s.Args {
			v := worth(f, c.Module.Args)
			if v > top || v < -top {
				return nil, api.ErrRange
			}
			n.Args = append(n.Args, v)
		}
		l = append(l, at(fmt.Sprintf("%s/%d", c.Path, i), n))
	}
	for _, n := range l {
		if len(n.Path) > 200 {
			return nil, api.ErrMany
		}
	}
	return l, api.OK
}

// stepped is the definition of Step for valid arguments.
func stepped(rules []rule, from int64, l []cell) ([]cell, api.Errno) {
	var next []cell
	for _, c := range l {
		fresh, e := become(rules, from, c)
		if e != api.OK {
			return nil, e
		}
		next = append(next, fresh...)
	}
	if len(next) > api.MaxWord {
		return nil, api.ErrMany
	}
	return next, api.OK
}

// ran is the definition of Run for valid arguments and a number of steps that is allowed.
func ran(rules []rule, from int64, w []mod, n int) ([]cell, api.Errno) {
	l := begun(w)
	for range n {
		next, e := stepped(rules, from, l)
		if e != api.OK {
			return nil, e
		}
		l = next
	}
	return l, api.OK
}

// seeds are seeds of both signs and at both ends.
var seeds = []int64{0, 1, -1, 2, 7, -7, 1000, 1 << 32, -1 << 32, math.MaxInt64, math.MaxInt64 - 1, math.MinInt64, math.MinInt64 + 1, 0x1E3779B97F4A7C15}

// someSeed returns any seed, small or great.
func someSeed(r *rand.Rand) int64 {
	if r.Intn(2) == 0 {
		return seeds[r.Intn(len(seeds))]
	}
	return int64(r.Uint64())
}

// letterPool are the names in random words and rules: few, so that rules often fit.
const letterPool = "AAABBC+"

// someWord returns a valid word of n modules, often with branches.
func someWord(r *rand.Rand, n int) []mod {
	var w []mod
	for open := 0; len(w) < n; {
		left := n - len(w)
		switch k := r.Intn(8); {
		case open > 0 && (open == left || k == 0):
			w = append(w, with(']'))
			open--
		case open+2 <= left && k <= 2:
			w = append(w, with('['))
			open++
		default:
			var args []int
			for range max(0, r.Intn(5)-2) {
				most := []int{2, 2, 5, 100, top}[r.Intn(5)]
				args = append(args, r.Intn(2*most+1)-most)
			}
			w = append(w, with(letterPool[r.Intn(len(letterPool))], args...))
		}
	}
	return w
}

// somePath returns a valid path, sometimes one that is nearly too long.
func somePath(r *rand.Rand) string {
	n := 1 + r.Intn(12)
	switch r.Intn(20) {
	case 0:
		n = 190 + r.Intn(11)
	case 1:
		n = 1 + r.Intn(200)
	}
	p := make([]byte, n)
	for i := range p {
		p[i] = "0123456789///"[r.Intn(13)]
	}
	return string(p)
}

// someCells returns valid cells with any paths.
func someCells(r *rand.Rand, n int) []cell {
	var l []cell
	for _, m := range someWord(r, n) {
		l = append(l, at(somePath(r), m))
	}
	return l
}

// someForm returns a form with small numbers, more often than with great ones.
func someForm(r *rand.Rand, arity int) form {
	most := []int{1, 1, 3, 3, 3, api.MaxCoef}[r.Intn(6)]
	f := sum(r.Intn(2*most+1) - most)
	for range arity {
		f.Coefs = append(f.Coefs, r.Intn(2*most+1)-most)
	}
	return f
}

// someRules returns valid rules, of which often several fit the same module.
func someRules(r *rand.Rand) []rule {
	var rules []rule
	pick := func() byte { return letterPool[r.Intn(len(letterPool))] }
	for range 1 + r.Intn(20) {
		n := to(pick(), max(0, r.Intn(5)-2))
		n.Weight = 1 + r.Intn([]int{1, 3, 10, api.MaxLot}[r.Intn(4)])
		for range max(0, r.Intn(6)-3) {
			n.Guards = append(n.Guards, someForm(r, n.Arity))
		}
		for range r.Intn(4) {
			var args []form
			for range max(0, r.Intn(4)-1) {
				args = append(args, someForm(r, n.Arity))
			}
			n.Out = append(n.Out, put(pick(), args...))
		}
		if len(n.Out) > 0 && r.Intn(3) == 0 {
			n.Out = slices.Concat(n.Out[:1], []shape{put('[')}, n.Out[1:], []shape{put(']')})
		}
		if r.Intn(10) == 0 {
			n.Out = append(n.Out, letters('A', "+A+B+C+A+B+C").Out...)
		}
		rules = append(rules, n)
	}
	return rules
}

// livelyRules returns valid rules by which most words grow.
func livelyRules(r *rand.Rand) []rule {
	var rules []rule
	for _, name := range []byte("ABC") {
		for range 1 + r.Intn(3) {
			s := ""
			for range 1 + r.Intn(3) {
				s += []string{"A", "B", "C", "+", "[A]", "[BC]", "[C][+]"}[r.Intn(7)]
			}
			rules = append(rules, weigh(1+r.Intn(9), letters(name, s)))
		}
		rules = append(rules, to(name, 1, put(name, sum(r.Intn(5), 1)), put('B', sum(1, r.Intn(3)))))
	}
	return rules
}

// integers are numbers at the edges of the types of which only few bits may be looked at.
var integers = []int{math.MinInt, math.MinInt + 1, math.MaxInt, math.MinInt32, math.MaxInt32, math.MaxInt32 + 1, 1 << 32, 1<<32 + 1, -1 << 32, -1<<32 - 1, 1 << 62, -1 << 62}
