package context_test

import (
	"cmp"
	"math"
	"reflect"
	"runtime"
	"slices"
	"strings"
	"testing"
	"unsafe"

	"gambrel/api"
	"gambrel/context"
)

// roomy returns a copy of a list, with some more elements in the memory behind it.
func roomy[T any](list []T, behind ...T) []T {
	room := append(make([]T, 0, len(list)+len(behind)), list...)
	copy(room[len(list):cap(room)], behind)
	return room
}

func freshForms(forms []form) []form {
	fresh := roomy(forms, form{Const: 91}, form{Const: 92})
	for i, f := range forms {
		fresh[i].Coefs = roomy(f.Coefs, 93, 94)
	}
	return fresh
}

// freshRules returns a copy of rules of which no two slices share memory, each with some room that holds something.
func freshRules(rules []rule) []rule {
	fresh := roomy(rules, rule{Name: 'y', Left: 'A'}, rule{Name: 'z', Right: 'A'})
	for i, r := range rules {
		fresh[i].Guards = freshForms(r.Guards)
		fresh[i].Out = roomy(r.Out, shape{Name: 'x'}, shape{Name: 'w'})
		for k, s := range r.Out {
			fresh[i].Out[k].Args = freshForms(s.Args)
		}
	}
	return fresh
}

func freshWord(w []mod) []mod {
	fresh := roomy(w, with('v', 1), with('u', 2, 3))
	for i, m := range w {
		fresh[i].Args = roomy(m.Args, 95, 96)
	}
	return fresh
}

// whole returns a copy of a list with all that is in its memory.
func whole[T any](list []T) []T {
	return slices.Clone(list[:cap(list)])
}

func wholeForms(forms []form) []form {
	all := whole(forms)
	for i := range all {
		all[i].Coefs = whole(all[i].Coefs)
	}
	return all
}

func wholeRules(rules []rule) []rule {
	all := whole(rules)
	for i := range all {
		all[i].Guards = wholeForms(all[i].Guards)
		all[i].Out = whole(all[i].Out)
		for k := range all[i].Out {
			all[i].Out[k].Args = wholeForms(all[i].Out[k].Args)
		}
	}
	return all
}

func wholeWord(w []mod) []mod {
	all := whole(w)
	for i := range all {
		all[i].Args = whole(all[i].Args)
	}
	return all
}

// someLists returns rules, valid ones and others.
func someLists() [][]rule {
	lists := goods()
	for _, c := range fewWrongs() {
		lists = append(lists, c.rules)
	}
	return append(lists, []rule{beside('A', to('A', 1, put('A', sum(1, 1), sum(2, -1)), put('B')), 0), to('B', 1, put('B', sum(0, 2)))}, []rule{when(beside(0, letters('A', "B"), 'B'), sum(0), sum(1)), letters('B', "AA")})
}

// someWords returns words, valid ones and others.
func someWords() [][]mod {
	list := [][]mod{nil, plain("A"), plain("BAA[A+A]A"), read("A(2)[A(1)B]+A(0)"), read("A(1,2)C(5)[]A(3)C(6,7,8,9)"), read("BA(1000000000)B(1000000000)"), plain(strings.Repeat("AB", 30)), slices.Repeat([]mod{with('A', 1)}, 1500)}
	for _, c := range wrongWords() {
		if len(c.w) < 3000 {
			list = append(list, c.w)
		}
	}
	return list
}

func TestArgumentsAreOnlyRead(t *testing.T) {
	for _, l := range someLists() {
		for _, u := range someWords() {
			rules, w := freshRules(l), freshWord(u)
			rulesBefore, wordBefore := wholeRules(rules), wholeWord(w)
			for _, ignore := range []string{"", "+", "[", "+A"} {
				context.Check(rules, ignore)
				for _, i := range []int{-1, 0, 1, 2, len(w)} {
					context.Left(w, i, ignore)
					context.Right(w, i, ignore)
					context.Find(rules, ignore, w, i)
				}
				context.Step(rules, ignore, w)
				for _, n := range []int{-1, 0, 1, 2, 7, 31} {
					context.Run(rules, ignore, w, n)
				}
			}
			if !reflect.DeepEqual(wholeRules(rules), rulesBefore) || !reflect.DeepEqual(wholeWord(w), wordBefore) {
				t.Error(brief(l), show(u))
			}
		}
	}
}

// area is a piece of memory.
type area struct{ from, to uintptr }

func areaOf[T any](list []T) []area {
	if cap(list) == 0 {
		return nil
	}
	var one T
	from := uintptr(unsafe.Pointer(unsafe.SliceData(list)))
	return []area{{from, from + uintptr(cap(list))*unsafe.Sizeof(one)}}
}

func areasOfForms(forms []form) []area {
	all := areaOf(forms)
	for _, f := range forms {
		all = append(all, areaOf(f.Coefs)...)
	}
	return all
}

func areas(rules []rule, words [][]mod) []area {
	all := areaOf(rules)
	for _, r := range rules {
		all = append(all, areasOfForms(r.Guards)...)
		all = append(all, areaOf(r.Out)...)
		for _, s := range r.Out {
			all = append(all, areasOfForms(s.Args)...)
		}
	}
	for _, w := range words {
		all = append(all, areaOf(w)...)
		for _, m := range w {
			all = append(all, areaOf(m.Args)...)
		}
	}
	return all
}

// apart reports whether no two slices of the rules and the words share memory. It takes the slices and not their areas, as memory that is no longer held may become another slice's.
func apart(rules []rule, words ...[]mod) bool {
	all := areas(rules, words)
	slices.SortFunc(all, func(p, q area) int { return cmp.Compare(p.from, q.from) })
	for i := 1; i < len(all); i++ {
		if all[i].from < all[i-1].to {
			return false
		}
	}
	runtime.KeepAlive(rules)
	runtime.KeepAlive(words)
	return true
}

func TestResultsShareNoMemory(t *testing.T) {
	for _, l := range someLists() {
		for _, u := range someWords() {
			rules, w := freshRules(l), freshWord(u)
			all := [][]mod{w}
			for range 2 {
				next, _ := context.Step(rules, "+", w)
				all = append(all, next)
				for _, n := range []int{0, 1, 2, 5} {
					next, _ := context.Run(rules, "+", w, n)
					all = append(all, next)
				}
			}
			if !apart(rules, all...) {
				t.Error(brief(l), show(u))
			}
		}
	}
}

// Modules and shapes of the arguments may have the same Args, in the same memory; those of a result have their own.
func TestPartsOfResultsShareNoMemory(t *testing.T) {
	args, coefs := []int{1, 2}, []int{1, 1}
	f := form{Coefs: coefs}
	forms := []form{f, f}
	rules := []rule{{Name: 'A', Arity: 2, Left: 'A', Guards: forms, Out: []shape{put('B', forms...), put('C', forms[:1]...), put('D', forms...)}}}
	w := []mod{with('A', args...), with('A', args...), with('F', args...), with('['), with('F', args...), with(']'), with('G', args[:1]...)}
	want := read("A(1,2)B(3,3)C(3)D(3,3)F(1,2)[F(1,2)]G(1)")
	next, e := context.Step(rules, "+", w)
	kept, g := context.Run(rules, "+", w, 0)
	later, h := context.Run(rules, "+", w, 3)
	if !is(next, e, want) || !is(kept, g, w) || !is(later, h, want) {
		t.Fatal(show(next, kept, later), e, g, h)
	}
	if !apart([]rule{{Guards: []form{f}}}, next, kept, later, w[:1]) {
		t.Error(show(next, kept, later))
	}
	for _, m := range slices.Concat(next, kept, later) {
		for i := range m.Args {
			m.Args[i] = -1
		}
		if !slices.Equal(args, []int{1, 2}) || !slices.Equal(coefs, []int{1, 1}) {
			t.Fatal(args, coefs)
		}
	}
}

// What is put behind a slice of a result changes no other one.
func TestResultsCanGrow(t *testing.T) {
	rules := []rule{beside('G', to('A', 1, put('A', sum(1, 1), sum(2, 1)), put('B', sum(3, 1))), 0)}
	want := read("A(1)F(1,2)GA(2,3)B(4)[A(5)]")
	for range 2 {
		next, e := context.Step(rules, "", read("A(1)F(1,2)GA(1)[A(5)]"))
		for i := range next {
			grown := append(next[i].Args, 8, 9)
			grown[0] = 7
			next[i].Args = append([]int(nil), want[i].Args...)
		}
		if longer := append(next, with('X')); !is(next, e, want) || len(longer) != len(want)+1 {
			t.Error(show(next), e)
		}
	}
}

func TestNothingIsKept(t *testing.T) {
	for range 3 {
		rules, w := []rule{beside('B', to('A', 1, put('A', sum(1, 1))), 0)}, read("B+A(2)A(7)")
		next, e := context.Step(rules, "+", w)
		later, f := context.Run(rules, "+", w, 3)
		k, g := context.Find(rules, "+", w, 2)
		left, h := context.Left(w, 2, "+")
		if !is(next, e, read("B+A(3)A(7)")) || !is(later, f, read("B+A(5)A(7)")) || k != 0 || g != api.OK || left != 0 || h != api.OK {
			t.Fatal(show(next, later), k, left, e, f, g, h)
		}
		for _, m := range slices.Concat(w, next, later) {
			for k := range m.Args {
				m.Args[k] = -1
			}
		}
		for k := range w {
			w[k].Name = '?'
		}
		rules[0].Out[0].Args[0].Const = 5
		rules[0].Left = '['
	}
	// An error changes nothing for later calls.
	for _, c := range fewWrongs() {
		context.Check(c.rules, c.ignore)
		context.Run(c.rules, c.ignore, plain("A"), 5)
		context.Left(plain("A"), 7, c.ignore)
		if w, e := context.Step(signal(), "", plain("BA")); !is(w, e, plain("AB")) {
			t.Error(show(w), e)
		}
	}
}

// The same rules and the same word may change between two calls.
func TestCallsSeeChanges(t *testing.T) {
	rules, w := signal(), plain("BAA")
	expect := func(ignore, want string, wantError api.Errno) {
		t.Helper()
		next, e := context.Step(rules, ignore, w)
		if !agrees(next, e, plain(want), wantError) {
			t.Error(want, show(next), e)
		}
	}
	expect("", "ABA", api.OK)
	expect("A", "ABB", api.OK)
	rules[0].Left = 'A'
	expect("", "AAB", api.OK)
	rules[0].Right = 'A'
	expect("", "AAA", api.OK)
	rules[0].Right = ']'
	expect("", "", api.ErrBad)
	rules[0].Left, rules[0].Right = 'B', 0
	w[1].Name = '['
	expect("", "", api.ErrOpen)
	w[2].Name = ']'
	expect("", "A[]", api.OK)
	rules[1].Out = append(rules[1].Out, put('A', sum(2)))
	next, e := context.Step(rules, "", w)
	if !is(next, e, read("AA(2)[]")) {
		t.Error(show(next), e)
	}
}

// Asked by many at a time, all calls have the same results.
func TestCallsAtTheSameTime(t *testing.T) {
	type call struct {
		rules   []rule
		w, next []mod
		e       api.Errno
	}
	var calls []call
	for _, rules := range goods() {
		for _, w := range [][]mod{nil, plain("BAA[A+A]A"), read("A(2)[A(1)B]+A(0)"), plain(strings.Repeat("BA+", 20))} {
			next, e := ran(rules, "+", w, 3)
			calls = append(calls, call{rules, w, next, e})
		}
	}
	done := make(chan bool)
	for range 4 {
		go func() {
			same := true
			for _, c := range calls {
				next, e := context.Run(c.rules, "+", c.w, 3)
				same = same && agrees(next, e, c.next, c.e)
			}
			done <- same
		}()
	}
	for range 4 {
		if !<-done {
			t.Error("other results")
		}
	}
}

// Calls with arguments of all kinds end, and have no other results with an error.
func TestNoCallPanics(t *testing.T) {
	lists := append(someLists(), []rule{{}}, []rule{{Name: 'A', Arity: math.MinInt}}, []rule{{Name: 'A', Arity: math.MaxInt, Guards: []form{{}}}}, []rule{{Name: 'A', Arity: 2, Guards: []form{{}}, Out: []shape{{Name: 'B', Args: []form{{}}}}}})
	words := append(someWords(), []mod{{Args: []int{1}}}, []mod{with('A'), with('A', 1), with('A', 1, 2), with('A', 1, 2, 3)}, []mod{with(0xff, 1, 2, 3, 4, 5, 6)})
	numbers := []int{math.MinInt, -1, 0, 1, 30, 31, math.MaxInt}
	for _, w := range words {
		for _, ignore := range []string{"", "+", "[", "\xff", names} {
			for _, i := range append(numbers, len(w)-1, len(w)) {
				left, e := context.Left(w, i, ignore)
				right, f := context.Right(w, i, ignore)
				if e != f || e != api.OK && (left != 0 || right != 0) {
					t.Error(show(w), i, ignore, left, right, e, f)
				}
			}
			for _, rules := range lists {
				for _, n := range numbers {
					k, e := context.Find(rules, ignore, w, n)
					next, f := context.Run(rules, ignore, w, n)
					if e != api.OK && k != 0 || f != api.OK && len(next) > 0 {
						t.Error(brief(rules), ignore, n, k, show(w, next), e, f)
					}
				}
			}
		}
	}
}
