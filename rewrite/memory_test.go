package rewrite_test

import (
	"cmp"
	"math"
	"reflect"
	"runtime"
	"slices"
	"strings"
	"testing"
	"unsafe"

	"gambrel/api"
	"gambrel/rewrite"
)

// roomy returns a copy of a list, with some more elements in the memory behind it.
func roomy[T any](list []T, behind ...T) []T {
	room := append(make([]T, 0, len(list)+len(behind)), list...)
	copy(room[len(list):cap(room)], behind)
	return room
}

func freshForms(forms []form) []form {
	fresh := roomy(forms, form{Const: 91}, form{Const: 92})
	for i, f := range forms {
		fresh[i].Coefs = roomy(f.Coefs, 93, 94)
	}
	return fresh
}

// freshRules returns a copy of rules of which no two slices share memory, each with some room that holds something.
func freshRules(rules []rule) []rule {
	fresh := roomy(rules, rule{Name: 'y'}, rule{Name: 'z'})
	for i, r := range rules {
		fresh[i].Guards = freshForms(r.Guards)
		fresh[i].Out = roomy(r.Out, shape{Name: 'x'}, shape{Name: 'w'})
		for k, s := range r.Out {
			fresh[i].Out[k].Args = freshForms(s.Args)
		}
	}
	return fresh
}

func freshWord(w []mod) []mod {
	fresh := roomy(w, with('v', 1), with('u', 2, 3))
	for i, m := range w {
		fresh[i].Args = roomy(m.Args, 95, 96)
	}
	return fresh
}

// whole returns a list with all that is in its memory.
func whole[T any](list []T) []T {
	return list[:cap(list)]
}

func wholeForms(forms []form) []form {
	all := slices.Clone(whole(forms))
	for i := range all {
		all[i].Coefs = slices.Clone(whole(all[i].Coefs))
	}
	return all
}

// wholeRules returns a copy of rules with all that is in their memory.
func wholeRules(rules []rule) []rule {
	all := slices.Clone(whole(rules))
	for i := range all {
		all[i].Guards = wholeForms(all[i].Guards)
		all[i].Out = slices.Clone(whole(all[i].Out))
		for k := range all[i].Out {
			all[i].Out[k].Args = wholeForms(all[i].Out[k].Args)
		}
	}
	return all
}

func wholeWord(w []mod) []mod {
	all := slices.Clone(whole(w))
	for i := range all {
		all[i].Args = slices.Clone(whole(all[i].Args))
	}
	return all
}

// someLists returns rules, valid ones and others.
func someLists() [][]rule {
	return [][]rule{
		nil, tree(), largest(), {letters('A', "AB"), letters('B', "[A]")}, {letters('A', "")}, {to('A', 1, put('A', sum(1, 1), sum(2, -1)), put('B'))}, {to('A', 2, put('A', sum(0, 0, 1), sum(0, 1, 0)))}, {when(letters('A', "B"), sum(0), sum(-1)), letters('B', "AA")}, {to('A', 1, put('A', sum(0, 1000000)))},
		{letters('#', "A")}, {letters('A', "[")}, {letters('A', strings.Repeat("A", 21))}, slices.Repeat([]rule{letters('A', "A")}, 41), {to('A', 2, put('A', sum(0, 1)))},
	}
}

// someWords returns words, valid ones and others.
func someWords() [][]mod {
	return [][]mod{nil, plain("A"), plain("A[B]A"), read("A(2)[A(1)B]A(0)"), read("A(1,2)C(5)[]A(3)C(6,7,8,9)"), read("A(1000000000)B"), plain(strings.Repeat("AB", 30)), plain("["), plain("#"), {with('A', 1, 2, 3, 4, 5)}, plain(strings.Repeat("A", 2001)), slices.Repeat([]mod{with('A', 1)}, 1500)}
}

func TestArgumentsAreOnlyRead(t *testing.T) {
	for _, l := range someLists() {
		for _, u := range someWords() {
			rules, w := freshRules(l), freshWord(u)
			rulesBefore, wordBefore := wholeRules(rules), wholeWord(w)
			rewrite.Check(rules)
			for _, m := range w[:min(len(w), 20)] {
				rewrite.Find(rules, m)
				for _, r := range rules {
					for _, g := range r.Guards {
						rewrite.Value(g, m.Args)
					}
				}
			}
			rewrite.Step(rules, w)
			for _, n := range []int{-1, 0, 1, 2, 7, 30, 31} {
				rewrite.Run(rules, w, n)
			}
			if !reflect.DeepEqual(wholeRules(rules), rulesBefore) || !reflect.DeepEqual(wholeWord(w), wordBefore) {
				t.Error(brief(l), show(u))
			}
		}
	}
}

// area is a piece of memory.
type area struct{ from, to uintptr }

func areaOf[T any](list []T) []area {
	if cap(list) == 0 {
		return nil
	}
	var one T
	from := uintptr(unsafe.Pointer(unsafe.SliceData(list)))
	return []area{{from, from + uintptr(cap(list))*unsafe.Sizeof(one)}}
}

func areasOfWord(w []mod) []area {
	all := areaOf(w)
	for _, m := range w {
		all = append(all, areaOf(m.Args)...)
	}
	return all
}

func areasOfForms(forms []form) []area {
	all := areaOf(forms)
	for _, f := range forms {
		all = append(all, areaOf(f.Coefs)...)
	}
	return all
}

func areasOfRules(rules []rule) []area {
	all := areaOf(rules)
	for _, r := range rules {
		all = append(all, areasOfForms(r.Guards)...)
		all = append(all, areaOf(r.Out)...)
		for _, s := range r.Out {
			all = append(all, areasOfForms(s.Args)...)
		}
	}
	return all
}

// apart reports whether no two slices of the rules and the words share memory. It takes the slices and not their areas, as memory that is no longer held may become another slice's.
func apart(rules []rule, words ...[]mod) bool {
	all := areasOfRules(rules)
	for _, w := range words {
		all = append(all, areasOfWord(w)...)
	}
	slices.SortFunc(all, func(p, q area) int { return cmp.Compare(p.from, q.from) })
	for i := 1; i < len(all); i++ {
		if all[i].from < all[i-1].to {
			return false
		}
	}
	runtime.KeepAlive(rules)
	runtime.KeepAlive(words)
	return true
}

func TestResultsShareNoMemory(t *testing.T) {
	for _, l := range someLists() {
		for _, u := range someWords() {
			rules, w := freshRules(l), freshWord(u)
			all := [][]mod{w}
			for range 2 {
				next, _ := rewrite.Step(rules, w)
				all = append(all, next)
				for _, n := range []int{0, 1, 2, 5} {
					next, _ := rewrite.Run(rules, w, n)
					all = append(all, next)
				}
			}
			if !apart(rules, all...) {
				t.Error(brief(l), show(u))
			}
		}
	}
}

// Modules and shapes of the arguments may have the same Args, in the same memory; those of a result have their own.
func TestPartsOfResultsShareNoMemory(t *testing.T) {
	args, coefs := []int{1, 2}, []int{1, 1}
	f := form{Coefs: coefs}
	forms := []form{f, f}
	rules := []rule{{Name: 'A', Arity: 2, Guards: forms, Out: []shape{put('B', forms...), put('C', forms[:1]...), put('D', forms...)}}}
	w := []mod{with('A', args...), with('A', args...), with('F', args...), with('['), with('F', args...), with(']'), with('G', args[:1]...)}
	want := read("B(3,3)C(3)D(3,3)B(3,3)C(3)D(3,3)F(1,2)[F(1,2)]G(1)")
	same := read("A(1,2)A(1,2)F(1,2)[F(1,2)]G(1)")
	next, e := rewrite.Step(rules, w)
	kept, g := rewrite.Run(rules, w, 0)
	later, h := rewrite.Run(rules, w, 3)
	if !is(next, e, want) || !is(kept, g, same) || !is(later, h, want) {
		t.Fatal(show(next, kept, later), e, g, h)
	}
	if !apart([]rule{{Guards: []form{f}}}, next, kept, later, w[:1]) {
		t.Error(show(next, kept, later))
	}
	for _, m := range slices.Concat(next, kept, later) {
		for i := range m.Args {
			m.Args[i] = -1
		}
		if !slices.Equal(args, []int{1, 2}) || !slices.Equal(coefs, []int{1, 1}) {
			t.Fatal(args, coefs)
		}
	}
}

// What is put behind a slice of a result changes no other one.
func TestResultsCanGrow(t *testing.T) {
	rules := []rule{to('A', 1, put('A', sum(1, 1), sum(2, 1)), put('B', sum(3, 1)))}
	w := read("A(1)F(1,2)G[A(5)]")
	want := read("A(2,3)B(4)F(1,2)G[A(6,7)B(8)]")
	for range 2 {
		next, e := rewrite.Step(rules, w)
		for i := range next {
			grown := append(next[i].Args, 8, 9)
			grown[0] = 7
			next[i].Args = append([]int(nil), want[i].Args...)
		}
		if longer := append(next, with('X')); !is(next, e, want) || len(longer) != len(want)+1 {
			t.Error(show(next), e)
		}
	}
	if !identical(w, read("A(1)F(1,2)G[A(5)]")) {
		t.Error(show(w))
	}
}

func TestNothingIsKept(t *testing.T) {
	for range 3 {
		rules, w := tree(), read("A(2)B(7)")
		next, e := rewrite.Step(rules, w)
		later, f := rewrite.Run(rules, w, 3)
		i, g := rewrite.Find(rules, w[0])
		if !is(next, e, read("F(2)[+A(1)]B(7)")) || !is(later, f, read("F(2)[+F(1)[+F(0)]]B(7)")) || i != 0 || g != api.OK {
			t.Fatal(show(next, later), i, e, f, g)
		}
		for _, m := range slices.Concat(w, next, later) {
			for k := range m.Args {
				m.Args[k] = -1
			}
		}
		for k := range w {
			w[k].Name = '?'
		}
		rules[0].Guards[0].Coefs[0], rules[0].Out[0].Args[0].Const = 5, 5
		rules[1] = rule{}
	}
	// An error changes nothing for later calls.
	for _, c := range fewWrongs() {
		rewrite.Check(c.rules)
		rewrite.Step(c.rules, plain("A"))
		rewrite.Value(sum(0, 1000000), []int{top})
		if w, e := rewrite.Step(tree(), read("A(1)")); !is(w, e, read("F(1)[+A(0)]")) {
			t.Error(c.why, show(w), e)
		}
	}
}

// The same rules and the same word may change between two calls.
func TestCallsSeeChanges(t *testing.T) {
	rules, w := []rule{to('A', 1, put('B', sum(1, 1)))}, read("A(1)A(2)")
	expect := func(want string, wantError api.Errno) {
		t.Helper()
		next, e := rewrite.Step(rules, w)
		if wantError != api.OK && !none(next, e, wantError) || wantError == api.OK && !is(next, e, read(want)) {
			t.Error(want, show(next), e)
		}
	}
	expect("B(2)B(3)", api.OK)
	rules[0].Out[0].Args[0].Const = 5
	expect("B(6)B(7)", api.OK)
	w[1].Args[0] = -9
	expect("B(6)B(-4)", api.OK)
	rules[0].Out[0].Args[0].Coefs[0] = 1000001
	expect("", api.ErrBad)
	rules[0].Out[0].Args[0].Coefs[0] = 0
	rules[0].Out[0].Name = 'C'
	expect("C(5)C(5)", api.OK)
	w[0].Name = '['
	expect("", api.ErrBad)
	w[0].Args = nil
	expect("", api.ErrOpen)
	w[0].Name = 'A'
	expect("AC(5)", api.OK)
	rules[0].Guards = []form{sum(0, 1)}
	expect("AA(-9)", api.OK)
}

// Asked by many at a time, all calls have the same results.
func TestCallsAtTheSameTime(t *testing.T) {
	type call struct {
		rules   []rule
		w, next []mod
		e       api.Errno
	}
	var calls []call
	all := words()
	for _, rules := range goods() {
		for _, w := range all[:10] {
			next, e := ran(rules, w, 3)
			calls = append(calls, call{rules, w, next, e})
		}
	}
	done := make(chan bool)
	for range 4 {
		go func() {
			same := true
			for _, c := range calls {
				next, e := rewrite.Run(c.rules, c.w, 3)
				same = same && agrees(next, e, c.next, c.e)
			}
			done <- same
		}()
	}
	for range 4 {
		if !<-done {
			t.Error("other results")
		}
	}
}

// Calls with arguments of all kinds end, and have no other results with an error.
func TestNoCallPanics(t *testing.T) {
	lists := append(goods(), nil, []rule{{}}, []rule{{Name: 'A', Arity: math.MinInt}}, []rule{{Name: 'A', Arity: math.MaxInt, Guards: []form{{}}}}, []rule{{Name: 'A', Arity: 2, Guards: []form{{}}, Out: []shape{{Name: 'B', Args: []form{{}}}}}}, []rule{{Name: 'A', Arity: 1, Guards: []form{sum(0, 1, 1, 1)}}})
	for _, c := range fewWrongs() {
		lists = append(lists, c.rules)
	}
	texts := append([][]mod{nil, {{}}, {{Args: []int{1}}}, {with('A'), with('A', 1), with('A', 1, 2), with('A', 1, 2, 3)}, {with('A', math.MinInt)}, {with(']')}, {with(0xff, 1, 2, 3, 4, 5, 6)}}, someWords()...)
	for _, rules := range lists {
		for _, w := range texts {
			for _, n := range []int{math.MinInt, -1, 0, 1, 30, 31, math.MaxInt} {
				if next, e := rewrite.Run(rules, w, n); e != api.OK && len(next) > 0 {
					t.Error(rules, show(w, next), e)
				}
			}
			for _, m := range w[:min(len(w), 5)] {
				if i, e := rewrite.Find(rules, m); e != api.OK && i != 0 {
					t.Error(rules, m, i, e)
				}
				for _, r := range rules {
					for _, f := range append(slices.Clone(r.Guards), form{}, sum(math.MinInt, math.MinInt)) {
						if v, e := rewrite.Value(f, m.Args); e != api.OK && v != 0 {
							t.Error(f, m, v, e)
						}
					}
				}
			}
		}
	}
}
