package chance_test

import (
	"fmt"
	"math/rand"
	"slices"
	"strings"
	"testing"

	"gambrel/api"
	"gambrel/chance"
	"gambrel/rewrite"
	"gambrel/word"
)

// eachByItself returns the successors of each cell, found one after the other, from the last to the first, and the error of the first cell that has one.
func eachByItself(rules []rule, from int64, l []cell) ([]cell, api.Errno) {
	var all []cell
	e := api.OK
	for _, c := range slices.Backward(l) {
		next, f := chance.One(rules, from, c)
		all = slices.Concat(next, all)
		if f != api.OK {
			e = f
		}
	}
	if e == api.OK && len(all) > api.MaxWord {
		e = api.ErrMany
	}
	if e != api.OK {
		return nil, e
	}
	return all, api.OK
}

func TestStepIsTheSuccessorsOfEachCell(t *testing.T) {
	r := rand.New(rand.NewSource(100))
	counts := map[api.Errno]int{}
	for k := range 2000 {
		rules, from := someRules(r), someSeed(r)
		l := someCells(r, 1+r.Intn(100))
		if k%2 == 0 {
			l = begun(modulesOf(l))
			rules = livelyRules(r)
		}
		next, e := chance.Step(rules, from, l)
		want, f := eachByItself(rules, from, l)
		if !agrees(next, e, want, f) {
			t.Fatal(rules, from, show(l, next, want), e, f)
		}
		counts[e]++
	}
	if counts[api.OK] < 700 || counts[api.ErrRange] < 50 || counts[api.ErrMany] < 50 {
		t.Error(counts)
	}
}

// What a cell becomes does not depend on the others: it is the same with the others in another order, with some of them, and with other ones.
func TestCellsDoNotDependOnOthers(t *testing.T) {
	r := rand.New(rand.NewSource(101))
	compared := 0
	for range 1000 {
		rules, from := livelyRules(r), someSeed(r)
		l := slices.DeleteFunc(someCells(r, 5+r.Intn(150)), func(c cell) bool { return c.Module.Name == '[' || c.Module.Name == ']' })
		next, e := chance.Step(rules, from, l)
		if e != api.OK {
			continue
		}
		becomes := func(c cell) []cell {
			one, _ := chance.One(rules, from, c)
			return one
		}
		for _, other := range [][]cell{l[len(l)/2:], append(slices.Clone(l), l...), slices.Concat(begun(plain("A[B]C+")), l)} {
			r.Shuffle(len(other), func(i, k int) {
				if !strings.ContainsAny(string([]byte{other[i].Module.Name, other[k].Module.Name}), "[]") {
					other[i], other[k] = other[k], other[i]
				}
			})
			var want []cell
			for _, c := range other {
				want = append(want, becomes(c)...)
			}
			if again, e := chance.Step(rules, from, other); !is(again, e, want) {
				t.Error(rules, from, show(other, again, want), e)
			}
			compared++
		}
		if len(next) == 0 && len(l) > 0 {
			t.Error(rules, show(l, next))
		}
	}
	if compared < 1000 {
		t.Error(compared)
	}
}

// separate reports whether all paths differ, and none of them, with a / behind it, is the beginning of another one.
func separate(l []cell) bool {
	for i, c := range l {
		for k, d := range l {
			if i != k && (c.Path == d.Path || strings.HasPrefix(d.Path, c.Path+"/")) {
				return false
			}
		}
	}
	return true
}

// separated takes cells away until their paths are separate. Brackets stay, with paths that are.
func separated(l []cell) []cell {
	var list []cell
	for i, c := range l {
		if c.Module.Name == '[' || c.Module.Name == ']' {
			c.Path = fmt.Sprintf("00/%d", i)
		}
		list = append(list, c)
		if !separate(list) {
			if strings.HasPrefix(c.Path, "00/") {
				return nil
			}
			list = list[:len(list)-1]
		}
	}
	return list
}

func TestPathsStaySeparate(t *testing.T) {
	r := rand.New(rand.NewSource(102))
	steps := 0
	try := func(rules []rule, from int64, l []cell) {
		t.Helper()
		next, e := chance.Step(rules, from, l)
		if !separate(l) || !separate(next) {
			t.Error(rules, from, show(l, next), e)
		}
		if e == api.OK && len(next) > len(l) {
			steps++
		}
	}
	for range 600 {
		try(livelyRules(r), someSeed(r), separated(someCells(r, 1+r.Intn(40))))
		try(someRules(r), someSeed(r), separated(someCells(r, 1+r.Intn(20))))
	}
	for _, l := range [][]cell{placed(plain("AAAA"), "1 11 111 10"), placed(plain("AAAA"), "0/1 0/2 0/10 0/11"), placed(plain("AAAA"), "/ 0/ 00 1/"), placed(plain("AAA"), "2/0 2/1 20"), placed(plain("AAAB"), "1/0/0 1/0/1 1/00 1/1")} {
		for _, rules := range [][]rule{{letters('A', "AB")}, {letters('A', strings.Repeat("A", 20))}, {letters('A', "A")}, {letters('A', "AA"), letters('A', "")}} {
			try(rules, 5, l)
		}
	}
	// Those of a run are, from the word on.
	for range 200 {
		l, e := chance.Run(livelyRules(r), someSeed(r), someWord(r, 1+r.Intn(9)), r.Intn(4))
		if e == api.OK && len(l) < 500 && !separate(l) {
			t.Error(show(l))
		}
	}
	if steps < 400 {
		t.Error(steps)
	}
	// Where they are not, they need not be after a step either.
	l, e := chance.Step([]rule{letters('A', "B")}, 1, placed(plain("AB"), "0 0/0"))
	if !is(l, e, placed(plain("BB"), "0/0 0/0")) || separate(l) {
		t.Error(show(l), e)
	}
}

// unweighted returns the rules without weights, for layer 7.
func unweighted(rules []rule) []rule {
	list := slices.Clone(rules)
	for i := range list {
		list[i].Weight = 0
	}
	return list
}

// exclusive returns rules of which no two fit the same module: of other names, of other numbers of Args, or with guards that are never both fulfilled.
func exclusive(r *rand.Rand) []rule {
	var rules []rule
	taken := map[[2]int]bool{}
	for _, n := range append(someRules(r), livelyRules(r)...) {
		n.Weight = 1 + r.Intn(api.MaxLot)
		if kind := [2]int{int(n.Name), n.Arity}; !taken[kind] && len(rules) < 38 {
			taken[kind] = true
			if n.Arity > 0 && len(n.Guards) < 4 {
				// Where the first argument is less than k, and where it is not.
				k := r.Intn(5) - 2
				first, minus := make([]int, n.Arity), make([]int, n.Arity)
				first[0], minus[0] = 1, -1
				other := weigh(1+r.Intn(9), to(n.Name, n.Arity, put('B', sum(3, first...))))
				rules = append(rules, when(other, sum(k-1, minus...)))
				n.Guards = append(slices.Clone(n.Guards), sum(-k, first...))
			}
			rules = append(rules, n)
		}
	}
	r.Shuffle(len(rules), func(i, k int) { rules[i], rules[k] = rules[k], rules[i] })
	return rules
}

// If no two rules fit the same module, there is nothing to choose, and the words are those of layer 7.
func TestRunWithoutChoice(t *testing.T) {
	r := rand.New(rand.NewSource(103))
	counts := map[api.Errno]int{}
	compare := func(rules []rule, w []mod, n int) {
		t.Helper()
		from := someSeed(r)
		l, e := chance.Run(rules, from, w, n)
		want, f := rewrite.Run(unweighted(rules), w, n)
		if e != f || !word.Same(modulesOf(l), want) {
			t.Fatal(rules, from, n, brief(w), show(l), brief(want), e, f)
		}
		counts[e]++
	}
	for range 350 {
		compare(exclusive(r), someWord(r, 1+r.Intn(12)), r.Intn(33)-1)
		compare(exclusive(r), someWord(r, 100+r.Intn(300)), r.Intn(5))
		compare(someRules(r)[:1], someWord(r, 1+r.Intn(12)), r.Intn(33)-1)
	}
	for _, rules := range [][]rule{nil, {}, {letters('A', "AB"), letters('B', "A")}, {weigh(7, letters('A', "A[+A]A"))}, {letters('A', "")}, {weigh(api.MaxLot, to('A', 1, put('A', sum(0, 10))))}, {letters('A', "AB"), to('A', 1, put('A')), letters('+', "-")}} {
		for _, w := range [][]mod{nil, plain("A"), read("A(1)[A]A(-7)+"), plain(strings.Repeat("A", 700))} {
			for n := -1; n <= 31; n++ {
				compare(rules, w, n)
			}
		}
	}
	if counts[api.OK] < 1000 || counts[api.ErrRange] < 50 || counts[api.ErrMany] < 50 || counts[api.ErrArg] < 20 {
		t.Error(counts)
	}
	// With two that fit, layer 7 takes the first one, and this layer either.
	choice := []rule{letters('A', "B"), letters('A', "C")}
	kinds := map[byte]bool{}
	for from := range int64(50) {
		l, _ := chance.Run(choice, from, plain("A"), 1)
		kinds[l[0].Module.Name] = true
	}
	if w, _ := rewrite.Run(unweighted(choice), plain("A"), 1); !word.Same(w, plain("B")) || len(kinds) != 2 {
		t.Error(w, kinds)
	}
}

// Rules that do not fit do not matter, wherever they stand, and whatever they weigh and would do.
func TestRulesThatDoNotFit(t *testing.T) {
	r := rand.New(rand.NewSource(104))
	never := []rule{letters('X', "AAA"), when(letters('A', "AAA"), sum(-1)), when(to('A', 1, put('A', sum(1000000, 1000000))), sum(0, 0), sum(-5, 0)), to('A', 4), to('a', 0), letters('!', "[!]"), when(letters('+', ""), sum(1), sum(1), sum(1), sum(-1000000))}
	for range 150 {
		rules, from, w, n := livelyRules(r), someSeed(r), someWord(r, 1+r.Intn(15)), r.Intn(5)
		l, e := chance.Run(rules, from, w, n)
		for _, more := range never {
			more.Weight = []int{1, 5, api.MaxLot}[r.Intn(3)]
			for place := range len(rules) + 1 {
				longer := slices.Insert(slices.Clone(rules), place, more)
				if m, f := chance.Run(longer, from, w, n); !agrees(m, f, l, e) {
					t.Fatal(longer, from, n, brief(w), show(l, m), e, f)
				}
			}
		}
	}
	// For a single cell.
	for range 2000 {
		rules, from, c := someRules(r), someSeed(r), someCells(r, 1)[0]
		fits := slices.DeleteFunc(slices.Clone(rules), func(n rule) bool { return len(fitting([]rule{n}, c.Module)) == 0 })
		l, e := chance.One(rules, from, c)
		if m, f := chance.One(fits, from, c); !agrees(l, e, m, f) {
			t.Fatal(rules, from, show([]cell{c}, l, m), e, f)
		}
	}
}

// The cells after steps are valid, and a run is as many steps, one after the other.
func TestRunIsStepsAfterSteps(t *testing.T) {
	r := rand.New(rand.NewSource(105))
	together := 0
	for k := range 150 {
		rules, from, w := someRules(r), someSeed(r), someWord(r, 1+r.Intn(10))
		if k%2 == 0 {
			rules = livelyRules(r)
		}
		now, e := chance.Begin(w)
		for n := range 12 {
			if e == api.OK {
				if f := chance.Cells(now); f != api.OK {
					t.Error(show(now), f)
				}
				together++
			}
			if all, f := chance.Run(rules, from, w, n); !agrees(all, f, now, e) {
				t.Error(rules, from, n, brief(w), show(now, all), e, f)
			}
			if e == api.OK {
				now, e = chance.Step(rules, from, now)
			}
		}
	}
	if together < 1000 {
		t.Error(together)
	}
}
