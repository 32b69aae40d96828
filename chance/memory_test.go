package chance_test

import (
	"cmp"
	"math"
	"reflect"
	"runtime"
	"slices"
	"strings"
	"testing"
	"time"
	"unsafe"

	"gambrel/api"
	"gambrel/chance"
)

// roomy returns a copy of a list, with some more elements in the memory behind it.
func roomy[T any](list []T, behind ...T) []T {
	room := append(make([]T, 0, len(list)+len(behind)), list...)
	copy(room[len(list):cap(room)], behind)
	return room
}

func freshForms(forms []form) []form {
	fresh := roomy(forms, form{Const: 91}, form{Const: 92})
	for i, f := range forms {
		fresh[i].Coefs = roomy(f.Coefs, 93, 94)
	}
	return fresh
}

// freshRules returns a copy of rules of which no two slices share memory, each with some room that holds something.
func freshRules(rules []rule) []rule {
	fresh := roomy(rules, rule{Name: 'y', Weight: 8}, rule{Name: 'z', Weight: -1})
	for i, r := range rules {
		fresh[i].Guards = freshForms(r.Guards)
		fresh[i].Out = roomy(r.Out, shape{Name: 'x'}, shape{Name: 'w'})
		for k, s := range r.Out {
			fresh[i].Out[k].Args = freshForms(s.Args)
		}
	}
	return fresh
}

func freshWord(w []mod) []mod {
	fresh := roomy(w, with('v', 1), with('u', 2, 3))
	for i, m := range w {
		fresh[i].Args = roomy(m.Args, 95, 96)
	}
	return fresh
}

func freshCells(l []cell) []cell {
	fresh := roomy(l, at("97", with('t', 1)), at("98", with('s')))
	for i, c := range l {
		fresh[i] = at(strings.Clone(c.Path), freshWord([]mod{c.Module})[0])
	}
	return fresh
}

// whole returns a copy of a list with all that is in its memory.
func whole[T any](list []T) []T {
	return slices.Clone(list[:cap(list)])
}

func wholeForms(forms []form) []form {
	all := whole(forms)
	for i := range all {
		all[i].Coefs = whole(all[i].Coefs)
	}
	return all
}

func wholeRules(rules []rule) []rule {
	all := whole(rules)
	for i := range all {
		all[i].Guards = wholeForms(all[i].Guards)
		all[i].Out = whole(all[i].Out)
		for k := range all[i].Out {
			all[i].Out[k].Args = wholeForms(all[i].Out[k].Args)
		}
	}
	return all
}

func wholeWord(w []mod) []mod {
	all := whole(w)
	for i := range all {
		all[i].Args = whole(all[i].Args)
	}
	return all
}

func wholeCells(l []cell) []cell {
	all := whole(l)
	for i := range all {
		all[i] = at(strings.Clone(all[i].Path), wholeWord([]mod{all[i].Module})[0])
	}
	return all
}

// someLists returns rules, valid ones and others.
func someLists() [][]rule {
	lists := goods()
	for _, c := range fewWrongs() {
		lists = append(lists, c.rules)
	}
	return append(lists, []rule{to('A', 1, put('A', sum(1, 1), sum(2, -1)), put('B')), to('B', 1, put('B', sum(0, 2)))}, []rule{when(letters('A', "B"), sum(0), sum(1)), weigh(3, letters('A', "AA"))})
}

// someWords returns words, valid ones and others.
func someWords() [][]mod {
	list := [][]mod{nil, plain("A"), plain("BAA[A+A]A"), read("A(2)[A(1)B]+A(0)"), read("A(1,2)C(5)[]A(3)C(6,7,8,9)"), read("BA(1000000000)B(1000000000)"), plain(strings.Repeat("AB", 50)), slices.Repeat([]mod{with('A', 1)}, 1500)}
	for _, c := range wrongWords() {
		if len(c.w) < 3000 {
			list = append(list, c.w)
		}
	}
	return list
}

// someCellLists returns cells, valid ones and others.
func someCellLists() [][]cell {
	list := [][]cell{placed(read("A(1)B(2)A"), "0 0 12/3"), placed(read("A[A(7)]"), "/ // 0/1 0"), {at("", with('A'))}, {at("0a", with('A', 1))}, {at(strings.Repeat("0", 199), with('A'))}, {at(strings.Repeat("0", 200), with('Z', 1, 2))}, {at(strings.Repeat("0", 201), with('A'))}}
	for _, w := range someWords() {
		list = append(list, begun(w))
	}
	return list
}

// useAll calls all functions with some arguments.
func useAll(rules []rule, w []mod, l []cell) {
	chance.Check(rules)
	chance.Begin(w)
	chance.Cells(l)
	chance.Word(l)
	for _, from := range []int64{0, -3} {
		for _, c := range l[:min(len(l), 5)] {
			chance.One(rules, from, c)
		}
		chance.Step(rules, from, l)
		for _, n := range []int{-1, 0, 1, 2, 7, 31} {
			chance.Run(rules, from, w, n)
		}
	}
}

func TestArgumentsAreOnlyRead(t *testing.T) {
	words := someWords()
	for _, list := range someLists() {
		for i, c := range someCellLists() {
			rules, w, l := freshRules(list), freshWord(words[i%len(words)]), freshCells(c)
			rulesBefore, wordBefore, cellsBefore := wholeRules(rules), wholeWord(w), wholeCells(l)
			useAll(rules, w, l)
			if !reflect.DeepEqual(wholeRules(rules), rulesBefore) || !reflect.DeepEqual(wholeWord(w), wordBefore) || !reflect.DeepEqual(wholeCells(l), cellsBefore) {
				t.Error(brief(list), show(c))
			}
		}
	}
}

// area is a piece of memory.
type area struct{ from, to uintptr }

func areaOf[T any](list []T) []area {
	if cap(list) == 0 {
		return nil
	}
	var one T
	from := uintptr(unsafe.Pointer(unsafe.SliceData(list)))
	return []area{{from, from + uintptr(cap(list))*unsafe.Sizeof(one)}}
}

// areaOfText returns the memory of a string, but not that of strings of one byte, which may all be in one table.
func areaOfText(s string) []area {
	if len(s) < 2 {
		return nil
	}
	from := uintptr(unsafe.Pointer(unsafe.StringData(s)))
	return []area{{from, from + uintptr(len(s))}}
}

func areasOfForms(forms []form) []area {
	all := areaOf(forms)
	for _, f := range forms {
		all = append(all, areaOf(f.Coefs)...)
	}
	return all
}

func areasOfRules(rules []rule) []area {
	all := areaOf(rules)
	for _, r := range rules {
		all = append(all, areasOfForms(r.Guards)...)
		all = append(all, areaOf(r.Out)...)
		for _, s := range r.Out {
			all = append(all, areasOfForms(s.Args)...)
		}
	}
	return all
}

func areasOfWord(w []mod) []area {
	all := areaOf(w)
	for _, m := range w {
		all = append(all, areaOf(m.Args)...)
	}
	return all
}

// areasOfCells returns the memory of cells, with that of paths that are long enough to be none of the constants for small numbers.
func areasOfCells(l []cell) []area {
	all := areaOf(l)
	for _, c := range l {
		all = append(all, areaOf(c.Module.Args)...)
		if len(c.Path) > 2 {
			all = append(all, areaOfText(c.Path)...)
		}
	}
	return all
}

// apart reports whether no two slices share memory. It takes what holds them, too, as memory that is no longer held may become another slice's.
func apart(rules []rule, words [][]mod, lists ...[]cell) bool {
	all := areasOfRules(rules)
	for _, w := range words {
		all = append(all, areasOfWord(w)...)
	}
	for _, l := range lists {
		all = append(all, areasOfCells(l)...)
	}
	slices.SortFunc(all, func(p, q area) int { return cmp.Compare(p.from, q.from) })
	for i := 1; i < len(all); i++ {
		if all[i].from < all[i-1].to {
			return false
		}
	}
	runtime.KeepAlive(rules)
	runtime.KeepAlive(words)
	runtime.KeepAlive(lists)
	return true
}

func TestResultsShareNoMemory(t *testing.T) {
	words := someWords()
	for _, list := range someLists() {
		for i, c := range someCellLists() {
			rules, w, l := freshRules(list), freshWord(words[i%len(words)]), freshCells(c)
			allWords, lists := [][]mod{w}, [][]cell{l}
			for range 2 {
				start, _ := chance.Begin(w)
				next, _ := chance.Step(rules, 1, l)
				v, _ := chance.Word(l)
				allWords, lists = append(allWords, v), append(lists, start, next)
				for _, b := range l[:min(len(l), 3)] {
					one, _ := chance.One(rules, 1, b)
					lists = append(lists, one)
				}
				for _, n := range []int{0, 1, 2, 5} {
					run, _ := chance.Run(rules, 1, w, n)
					lists = append(lists, run)
				}
			}
			if !apart(rules, allWords, lists...) {
				t.Error(brief(list), show(c))
			}
		}
	}
}

// Modules, cells and shapes of the arguments may have the same Args and the same path, in the same memory; those of a result have their own.
func TestPartsOfResultsShareNoMemory(t *testing.T) {
	args, coefs, path := []int{1, 2}, []int{1, 1}, strings.Repeat("0", 5)
	f := form{Coefs: coefs}
	forms := []form{f, f}
	rules := []rule{{Name: 'A', Arity: 2, Weight: 1, Guards: forms, Out: []shape{put('B', forms...), put('C', forms[:1]...), put('D', forms...)}}}
	w := []mod{with('A', args...), with('F', args...), with('['), with('F', args...), with(']'), with('G', args[:1]...)}
	var l []cell
	for _, m := range w {
		l = append(l, at(path, m))
	}
	want := placed(read("B(3,3)C(3)D(3,3)F(1,2)[F(1,2)]G(1)"), "00000/0 00000/1 00000/2 00000 00000 00000 00000 00000")
	next, e := chance.Step(rules, 3, l)
	v, g := chance.Word(l)
	start, h := chance.Begin(w)
	kept, i := chance.Run(rules, 3, w, 0)
	later, j := chance.Run(rules, 3, w, 3)
	one, k := chance.One(rules, 3, l[1])
	if !is(next, e, want) || g != api.OK || !is(start, h, begun(w)) || !is(kept, i, start) || !is(later, j, placed(modulesOf(want), "0/0 0/1 0/2 1 2 3 4 5")) || !is(one, k, l[1:2]) {
		t.Fatal(show(next, start, kept, later, one), brief(v), e, g, h, i, j, k)
	}
	if !apart([]rule{{Guards: []form{f}}}, [][]mod{w[:1], v}, next, start, kept, later, one) {
		t.Error(show(next, start, kept, later, one))
	}
	for _, m := range slices.Concat(modulesOf(slices.Concat(next, start, kept, later, one)), v) {
		for i := range m.Args {
			m.Args[i] = -1
		}
		if !slices.Equal(args, []int{1, 2}) || !slices.Equal(coefs, []int{1, 1}) {
			t.Fatal(args, coefs)
		}
	}
}

// What is put behind a slice of a result changes no other one.
func TestResultsCanGrow(t *testing.T) {
	rules := []rule{to('A', 1, put('A', sum(1, 1), sum(2, 1)), put('B', sum(3, 1)))}
	want := placed(read("A(1,2)F(1,2)GA(2,3)B(4)[A(6,7)B(8)]"), "0 1 2 3/0 3/1 4 5/0 5/1 6")
	for range 2 {
		next, e := chance.Run(rules, 1, read("A(1,2)F(1,2)GA(1)[A(5)]"), 1)
		for i := range next {
			grown := append(next[i].Module.Args, 8, 9)
			grown[0] = 7
			next[i].Module.Args = append([]int(nil), want[i].Module.Args...)
		}
		if longer := append(next, at("0", with('X'))); !is(next, e, want) || len(longer) != len(want)+1 {
			t.Error(show(next), e)
		}
	}
}

func TestNothingIsKept(t *testing.T) {
	for range 3 {
		rules, w := []rule{to('A', 1, put('A', sum(1, 1))), letters('B', "BB")}, read("BA(2)C(7)")
		l, e := chance.Begin(w)
		next, f := chance.Step(rules, 1, l)
		later, g := chance.Run(rules, 1, w, 2)
		if !is(l, e, begun(w)) || !is(next, f, placed(read("BBA(3)C(7)"), "0/0 0/1 1/0 2")) || !is(later, g, placed(read("BBBBA(4)C(7)"), "0/0/0 0/0/1 0/1/0 0/1/1 1/0/0 2")) {
			t.Fatal(show(l, next, later), e, f, g)
		}
		for _, m := range slices.Concat(w, modulesOf(slices.Concat(l, next, later))) {
			for k := range m.Args {
				m.Args[k] = -1
			}
		}
		for k := range w {
			w[k].Name, l[k].Path = '?', "?"
		}
		rules[0].Out[0].Args[0].Const = 5
		rules[0].Weight = 0
	}
	// An error changes nothing for later calls.
	for _, c := range fewWrongs() {
		useAll(c.rules, plain("A"), []cell{at("", with('A'))})
		if l, e := chance.Step(bush()[:1], 1, begun(plain("BA"))); !is(l, e, placed(plain("BBC"), "0 1/0 1/1")) {
			t.Error(show(l), e)
		}
	}
}

// The same rules and the same cells may change between two calls.
func TestCallsSeeChanges(t *testing.T) {
	rules, l := []rule{letters('A', "B"), weigh(1, letters('C', "D"))}, placed(plain("AAC"), "0 1 2")
	expect := func(want, paths string, wantError api.Errno) {
		t.Helper()
		next, e := chance.Step(rules, 1, l)
		if !agrees(next, e, placed(plain(want), paths), wantError) {
			t.Error(want, show(next), e)
		}
	}
	expect("BBD", "0/0 1/0 2/0", api.OK)
	rules[0].Out = append(rules[0].Out, put('A'))
	expect("BABAD", "0/0 0/1 1/0 1/1 2/0", api.OK)
	rules[0].Weight = 0
	expect("", "", api.ErrBad)
	rules[0].Weight, rules[0].Name = 9, 'F'
	expect("AAD", "0 1 2/0", api.OK)
	l[1].Path = "x"
	expect("", "", api.ErrBad)
	l[1].Path = "7/7"
	expect("AAD", "0 7/7 2/0", api.OK)
	l[1].Module.Name = '['
	expect("", "", api.ErrOpen)
	l[2].Module.Name = ']'
	expect("A[]", "0 7/7 2", api.OK)
}

// Asked by many at a time, all calls have the same results.
func TestCallsAtTheSameTime(t *testing.T) {
	type call struct {
		rules []rule
		w     []mod
		next  []cell
		e     api.Errno
	}
	var calls []call
	for _, rules := range goods() {
		for _, w := range [][]mod{nil, plain("BAA[A+A]A"), read("A(2)[A(1)B]+A(0)"), plain(strings.Repeat("BA+", 100))} {
			next, e := ran(rules, 8, w, 3)
			calls = append(calls, call{rules, w, next, e})
		}
	}
	done := make(chan bool)
	for range 4 {
		go func() {
			same := true
			for _, c := range calls {
				next, e := chance.Run(c.rules, 8, c.w, 3)
				same = same && agrees(next, e, c.next, c.e)
			}
			done <- same
		}()
	}
	for range 4 {
		if !<-done {
			t.Error("other results")
		}
	}
}

// Once a call has returned, no goroutine of it is left, however it ended.
func TestNoGoroutineIsLeft(t *testing.T) {
	before := runtime.NumGoroutine()
	failing := []rule{to('A', 1, put('A', sum(1, 1))), letters('A', "AB"), letters('A', "C")}
	for k := range 60 {
		l := slices.Repeat([]cell{at("0", with('B'))}, 2000)
		if k%2 == 0 {
			l[k*9] = at("1", with('A', top))
		}
		chance.Step(failing, int64(k), l)
		chance.Run(failing, int64(k), plain(strings.Repeat("A", 500)), 9)
	}
	// What has sent its result may need a moment to end.
	for range 5000 {
		if runtime.NumGoroutine() <= before {
			return
		}
		time.Sleep(time.Millisecond)
	}
	t.Error(before, runtime.NumGoroutine())
}

// Calls with arguments of all kinds end, and have no other results with an error.
func TestNoCallPanics(t *testing.T) {
	lists := append(someLists(), []rule{{}}, []rule{{Name: 'A', Arity: math.MinInt}}, []rule{{Name: 'A', Arity: math.MaxInt, Weight: 1, Guards: []form{{}}}}, []rule{{Name: 'A', Arity: 2, Weight: 1, Guards: []form{{}}, Out: []shape{{Name: 'B', Args: []form{{}}}}}})
	words := append(someWords(), []mod{{Args: []int{1}}}, []mod{with('A'), with('A', 1), with('A', 1, 2), with('A', 1, 2, 3)}, []mod{with(0xff, 1, 2, 3, 4, 5, 6)})
	for _, rules := range lists {
		for _, w := range words {
			for _, n := range []int{math.MinInt, -1, 0, 1, 30, 31, math.MaxInt} {
				if l, e := chance.Run(rules, math.MinInt64, w, n); e != api.OK && len(l) > 0 {
					t.Error(brief(rules), brief(w), n, show(l), e)
				}
			}
		}
		for _, l := range append(someCellLists(), []cell{{}}, make([]cell, 70)) {
			next, e := chance.Step(rules, math.MaxInt64, l)
			w, f := chance.Word(l)
			if e != api.OK && len(next) > 0 || f != api.OK && len(w) > 0 {
				t.Error(brief(rules), show(l, next), brief(w), e, f)
			}
			for _, c := range l[:min(len(l), 4)] {
				if one, e := chance.One(rules, 0, c); e != api.OK && len(one) > 0 {
					t.Error(brief(rules), show([]cell{c}, one), e)
				}
			}
		}
	}
}
