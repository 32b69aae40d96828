package growth_test

import (
	"fmt"
	"math"
	"math/big"
	"math/rand"
	"regexp"
	"slices"
	"strings"

	"gambrel/api"
	"gambrel/rewrite"
	"gambrel/word"
)

type (
	mod   = api.Module
	form  = api.Form
	shape = api.Shape
	rule  = api.Rewrite
	rows  = [][]int64
)

// letters are the names that modules may have, but for brackets.
const letters = "ABCDEFGHIJKLMNOPQRSTUVWXYZabcdefghijklmnopqrstuvwxyz+-&^|!"

// dozen are as many names as there may be.
const dozen = "ABCDEFGHIJKL"

// most is the greatest count.
const most = api.MaxCount

func with(name byte, args ...int) mod {
	return mod{Name: name, Args: args}
}

// plain returns the word of modules without Args whose names are the bytes of s.
func plain(s string) []mod {
	var w []mod
	for _, name := range []byte(s) {
		w = append(w, mod{Name: name})
	}
	return w
}

// spelt returns the names of the modules of a word.
func spelt(w []mod) string {
	var s []byte
	for _, m := range w {
		s = append(s, m.Name)
	}
	return string(s)
}

// read returns the word with a text.
func read(s string) []mod {
	w, e := word.Parse(s)
	if e != api.OK {
		panic(s)
	}
	return w
}

// sum returns the form with a Const and Coefs.
func sum(constant int, coefs ...int) form {
	return form{Const: constant, Coefs: coefs}
}

func put(name byte, args ...form) shape {
	return shape{Name: name, Args: args}
}

// bare returns shapes without Args whose names are the bytes of s.
func bare(s string) []shape {
	var out []shape
	for _, name := range []byte(s) {
		out = append(out, shape{Name: name})
	}
	return out
}

// to returns a rule without guards.
func to(name byte, arity int, out ...shape) rule {
	return rule{Name: name, Arity: arity, Out: out}
}

// when returns r with guards.
func when(r rule, guards ...form) rule {
	r.Guards = guards
	return r
}

// from returns the rule for a letter whose Out has the names of s.
func from(name byte, s string) rule {
	return to(name, 0, bare(s)...)
}

// system returns the rules that are separated by blanks: each of them is a letter, =, and the names of Out.
func system(s string) []rule {
	var rules []rule
	for _, f := range strings.Fields(s) {
		rules = append(rules, from(f[0], f[2:]))
	}
	return rules
}

// fibonacci are the rules of the chapter's first example.
func fibonacci() []rule {
	return system("A=AB B=A")
}

// brief writes anything for messages, of what is long only a part.
func brief(v any) string {
	return fmt.Sprintf("%.400s", fmt.Sprint(v))
}

// agrees reports whether a result are the numbers and the error that are wanted.
func agrees(counts []int64, e api.Errno, want []int64, wantError api.Errno) bool {
	return e == wantError && slices.Equal(counts, want)
}

// agree does the same for rows.
func agree(m rows, e api.Errno, want rows, wantError api.Errno) bool {
	return e == wantError && slices.EqualFunc(m, want, slices.Equal)
}

var proper = regexp.MustCompile(`^[A-Za-z+\-&^|!]*$`)

// twice reports whether one of the bytes of s occurs again.
func twice(s string) bool {
	seen := map[byte]bool{}
	for _, b := range []byte(s) {
		seen[b] = true
	}
	return len(seen) < len(s)
}

// known reports whether all bytes of s, but brackets, are among names.
func known(s, names string) bool {
	return !slices.ContainsFunc([]byte(s), func(b byte) bool { return !slices.Contains([]byte(names+"[]"), b) })
}

// checked is the definition of Check.
func checked(rules []rule, names string) api.Errno {
	if e := rewrite.Check(rules); e != api.OK {
		return e
	}
	if len(names) > 12 {
		return api.ErrMany
	}
	if !proper.MatchString(names) || twice(names) {
		return api.ErrBad
	}
	for _, r := range rules {
		text := string([]byte{r.Name})
		args := 0
		for _, s := range r.Out {
			text += string([]byte{s.Name})
			args += len(s.Args)
		}
		if r.Arity > 0 || len(r.Guards) > 0 || args > 0 || !known(text, names) {
			return api.ErrBad
		}
	}
	return api.OK
}

// checkedWord is the definition of the errors of a word.
func checkedWord(w []mod, names string) api.Errno {
	if e := word.Check(w); e != api.OK {
		return e
	}
	if !known(spelt(w), names) || slices.ContainsFunc(w, func(m mod) bool { return len(m.Args) > 0 }) {
		return api.ErrBad
	}
	return api.OK
}

// outOf returns the names of what a letter becomes: for the first rule with its name, those of Out.
func outOf(rules []rule, name byte) string {
	for _, r := range rules {
		if r.Name == name {
			s := ""
			for _, o := range r.Out {
				s += string([]byte{o.Name})
			}
			return s
		}
	}
	return string([]byte{name})
}

// drawn is the definition of Matrix for plain rules.
func drawn(rules []rule, names string) rows {
	var m rows
	for _, name := range []byte(names) {
		m = append(m, told(outOf(rules, name), names))
	}
	return m
}

// told returns how often each of names is in a text.
func told(text, names string) []int64 {
	var counts []int64
	for _, name := range []byte(names) {
		counts = append(counts, int64(strings.Count(text, string([]byte{name}))))
	}
	return counts
}

// multiplied is the definition of Times.
func multiplied(a, b rows) (rows, api.Errno) {
	for _, m := range []rows{a, b} {
		if len(m) > 12 || len(m) != len(a) {
			return nil, api.ErrBad
		}
		for _, row := range m {
			if len(row) != len(a) || slices.ContainsFunc(row, func(x int64) bool { return x < 0 || x > 1e15 }) {
				return nil, api.ErrBad
			}
		}
	}
	var product rows
	for i := range a {
		var row []int64
		for k := range a {
			var column []*big.Int
			for _, r := range b {
				column = append(column, big.NewInt(r[k]))
			}
			x := dot(a[i], column)
			if x.Cmp(big.NewInt(1e15)) > 0 {
				return nil, api.ErrRange
			}
			row = append(row, x.Int64())
		}
		product = append(product, row)
	}
	return product, api.OK
}

// dot returns the sum of the products, whatever its size.
func dot(row []int64, column []*big.Int) *big.Int {
	x := new(big.Int)
	for i, c := range column {
		x.Add(x, new(big.Int).Mul(big.NewInt(row[i]), c))
	}
	return x
}

// offspring returns, for each number of steps up to n, and for each of names, how many modules with the last name one with this name has become, whatever the numbers are: those that its successor's modules become in one step less. It goes from the end of the steps to their beginning, where the program goes forwards.
func offspring(rules []rule, names string, last byte, n int) [][]*big.Int {
	var now []*big.Int
	for _, name := range []byte(names) {
		now = append(now, big.NewInt(int64(strings.Count(string([]byte{name}), string([]byte{last})))))
	}
	all := [][]*big.Int{now}
	for range n {
		var next []*big.Int
		for _, name := range []byte(names) {
			next = append(next, dot(told(outOf(rules, name), names), now))
		}
		now = next
		all = append(all, now)
	}
	return all
}

// grown is the definition of Counts for plain rules and words, whatever the numbers are, for all numbers of steps up to n: first by steps, then by names.
func grown(rules []rule, names string, w []mod, n int) [][]*big.Int {
	start := told(spelt(w), names)
	counts := make([][]*big.Int, n+1)
	for _, last := range []byte(names) {
		for k, column := range offspring(rules, names, last, n) {
			counts[k] = append(counts[k], dot(start, column))
		}
	}
	return counts
}

// counted returns what Counts returns after n steps, found from what grown returns.
func counted(all [][]*big.Int, n int) ([]int64, api.Errno) {
	for _, row := range all[:n+1] {
		if slices.ContainsFunc(row, tooGreat) {
			return nil, api.ErrRange
		}
	}
	var counts []int64
	for _, x := range all[n] {
		counts = append(counts, x.Int64())
	}
	return counts, api.OK
}

// measured returns what Length returns after n steps, found from what grown returns.
func measured(all [][]*big.Int, n int) (int64, api.Errno) {
	counts, e := counted(all, n)
	if e != api.OK {
		return 0, e
	}
	x := new(big.Int)
	for _, c := range counts {
		x.Add(x, big.NewInt(c))
	}
	if tooGreat(x) {
		return 0, api.ErrRange
	}
	return x.Int64(), api.OK
}

func tooGreat(x *big.Int) bool {
	return x.Cmp(big.NewInt(1e15)) > 0
}

// integers are numbers at the edges of the types of which only few bits may be looked at.
var integers = []int{math.MinInt, math.MinInt + 1, math.MaxInt, math.MinInt32, math.MaxInt32, math.MaxInt32 + 1, 1 << 32, 1<<32 + 1, -1 << 32, -1<<32 - 1, 1 << 62, -1 << 62}

// wrongSteps are numbers of steps that are not allowed.
func wrongSteps() []int {
	return append([]int{-1, -2, -60, 61, 62, 120, 256, 257, 256 + 60, 65536, 65536 + 1}, integers...)
}

// plainSystem is a system: rules and names for which they are plain.
type plainSystem struct {
	rules []rule
	names string
}

// goods returns systems, ordinary ones and ones at the limits.
func goods() []plainSystem {
	list := []plainSystem{
		{nil, ""}, {[]rule{}, ""}, {nil, "A"}, {nil, dozen}, {fibonacci(), "AB"}, {fibonacci(), "BA"}, {fibonacci(), "zB-A!"}, {system("A=A[A]A"), "A"}, {system("A="), "A"}, {system("A=[]"), "A"}, {system("A=[[][]][]"), "A"}, {system("A=A"), "A"},
		{system("F=F[+F]F[-F]F"), "F+-"}, {system("+=-&^ -=| !=!! &=[!] a=z"), "+-&^|!az"}, {system("A=AB A=B A= B=BA B=A"), "AB"}, {system("B=A"), "ABC"}, {slices.Repeat(system("A=AA"), 40), "A"}, {slices.Repeat(system("A=B B="), 20), "AB"},
		{system("A=" + strings.Repeat("A", 20)), "A"}, {system("A=" + strings.Repeat("[]", 10)), "A"}, {system("A=" + strings.Repeat("[", 9) + "AB" + strings.Repeat("]", 9) + " B="), "AB"},
		{chain("10 10 10 10 10 10 10 10 10 10 10"), dozen}, {chain("20 20 20 20 20 20 20 20 20 20 20"), dozen}, {chain("1 2 3 4 5 6 7 8 9 10 11"), dozen},
	}
	var all []rule
	for i := range 40 {
		all = append(all, from(dozen[i%12], strings.Repeat(dozen, 2)[i%12:][:12]+"[ABCDEF]"))
	}
	list = append(list, plainSystem{all, dozen}, plainSystem{all, "LKJIHGFEDCBA"})
	r := rand.New(rand.NewSource(107))
	for range 60 {
		list = append(list, someSystem(r))
	}
	return list
}

// chain returns rules for the dozen by which each name becomes as many of the next one as the numbers say, and the last one nothing.
func chain(numbers string) []rule {
	var rules []rule
	for i, f := range strings.Fields(numbers) {
		n := 0
		fmt.Sscan(f, &n)
		rules = append(rules, from(dozen[i], strings.Repeat(dozen[i+1:i+2], n)))
	}
	return append(rules, from('L', ""))
}

// shuffled returns the bytes of s in another order.
func shuffled(r *rand.Rand, s string) string {
	b := []byte(s)
	r.Shuffle(len(b), func(i, k int) { b[i], b[k] = b[k], b[i] })
	return string(b)
}

// someSystem returns rules that are plain for names, sometimes several for a name, and for some names none.
func someSystem(r *rand.Rand) plainSystem {
	names := shuffled(r, letters)[:1+r.Intn(12)]
	longest := []int{2, 3, 5, 20}[r.Intn(4)]
	var rules []rule
	for range r.Intn(2*len(names) + 1) {
		rules = append(rules, from(names[r.Intn(len(names))], someText(r, names, r.Intn(longest+1))))
	}
	return plainSystem{rules, names}
}

// someText returns n bytes of names, often with brackets between them, which match.
func someText(r *rand.Rand, names string, n int) string {
	s := ""
	for open := 0; len(s) < n; {
		left := n - len(s)
		switch k := r.Intn(8); {
		case open > 0 && (open == left || k == 0):
			s += "]"
			open--
		case open+2 <= left && k == 1:
			s += "["
			open++
		default:
			s += names[r.Intn(len(names)):][:1]
		}
	}
	return s
}
