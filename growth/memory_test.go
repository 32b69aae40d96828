package growth_test

import (
	"cmp"
	"math"
	"reflect"
	"runtime"
	"slices"
	"strings"
	"testing"
	"unsafe"

	"gambrel/api"
	"gambrel/growth"
)

// roomy returns a copy of a list, with some more elements in the memory behind it.
func roomy[T any](list []T, behind ...T) []T {
	room := append(make([]T, 0, len(list)+len(behind)), list...)
	copy(room[len(list):cap(room)], behind)
	return room
}

func freshForms(forms []form) []form {
	fresh := roomy(forms, form{Const: 91}, form{Const: 92})
	for i, f := range forms {
		fresh[i].Coefs = roomy(f.Coefs, 93, 94)
	}
	return fresh
}

// freshRules returns a copy of rules of which no two slices share memory, each with some room that holds something.
func freshRules(rules []rule) []rule {
	fresh := roomy(rules, rule{Name: 'y', Arity: 1}, rule{Name: 'z', Weight: -1})
	for i, r := range rules {
		fresh[i].Guards = freshForms(r.Guards)
		fresh[i].Out = roomy(r.Out, shape{Name: 'x'}, shape{Name: 'w'})
		for k, s := range r.Out {
			fresh[i].Out[k].Args = freshForms(s.Args)
		}
	}
	return fresh
}

func freshWord(w []mod) []mod {
	fresh := roomy(w, with('v', 1), with('u', 2, 3))
	for i, m := range w {
		fresh[i].Args = roomy(m.Args, 95, 96)
	}
	return fresh
}

func freshRows(m rows) rows {
	fresh := roomy(m, []int64{97}, []int64{98, 99})
	for i, row := range m {
		fresh[i] = roomy(row, 100, -1)
	}
	return fresh
}

// whole returns a copy of a list with all that is in its memory.
func whole[T any](list []T) []T {
	return slices.Clone(list[:cap(list)])
}

func wholeForms(forms []form) []form {
	all := whole(forms)
	for i := range all {
		all[i].Coefs = whole(all[i].Coefs)
	}
	return all
}

func wholeRules(rules []rule) []rule {
	all := whole(rules)
	for i := range all {
		all[i].Guards = wholeForms(all[i].Guards)
		all[i].Out = whole(all[i].Out)
		for k := range all[i].Out {
			all[i].Out[k].Args = wholeForms(all[i].Out[k].Args)
		}
	}
	return all
}

func wholeWord(w []mod) []mod {
	all := whole(w)
	for i := range all {
		all[i].Args = whole(all[i].Args)
	}
	return all
}

func wholeRows(m rows) rows {
	all := whole(m)
	for i := range all {
		all[i] = whole(all[i])
	}
	return all
}

// someWrongs returns systems that have an error, as few as show all kinds.
func someWrongs() []wrong {
	list := fewWrongs()
	for i, r := range slices.Concat(wrongRules(), curvedRules(), crowdedRules()) {
		if i%9 == 0 {
			list = append(list, wrong{append(fibonacci(), r), "AB", api.OK})
		}
	}
	return list
}

// allSystems returns systems, valid ones and others.
func allSystems() []wrong {
	list := someWrongs()
	for _, s := range goods() {
		list = append(list, wrong{s.rules, s.names, api.OK})
	}
	return list
}

// someWords returns words, valid ones and others.
func someWords() [][]mod {
	list := [][]mod{nil, plain("A"), plain("AB[BA]"), plain("[[]]"), plain("F[+F]-"), times(100, "AB"), {with('A', 1), with('B', 2, 3)}}
	for i, c := range badWords() {
		if len(c.w) < 100 && i%20 == 0 {
			list = append(list, c.w)
		}
	}
	return list
}

// someRows returns matrices, valid ones and others.
func someRows() []rows {
	return []rows{nil, {}, {{}}, unit(1, 7), unit(2, 3), {{1, 1}, {1, 0}}, filled(2, 2, most), filled(3, 3, 5), filled(3, 2, 1), filled(2, 3, 1), filled(12, 12, 9), filled(13, 13, 1), {{1, 2}, {3}}, {{-1}}, {{most + 1}}, filled(3, 3, -5)}
}

func TestArgumentsAreOnlyRead(t *testing.T) {
	words := someWords()
	for i, s := range allSystems() {
		for _, w := range [][]mod{words[i%len(words)], words[1+i%5]} {
			rules, w := freshRules(s.rules), freshWord(w)
			rulesBefore, wordBefore := wholeRules(rules), wholeWord(w)
			growth.Check(rules, s.names)
			growth.Matrix(rules, s.names)
			for _, n := range []int{-1, 0, 1, 2, 30, 60, 61} {
				growth.Counts(rules, s.names, w, n)
				growth.Length(rules, s.names, w, n)
			}
			if !reflect.DeepEqual(wholeRules(rules), rulesBefore) || !reflect.DeepEqual(wholeWord(w), wordBefore) {
				t.Error(brief(s), brief(w))
			}
		}
	}
	for _, a := range someRows() {
		for _, b := range someRows() {
			m, n := freshRows(a), freshRows(b)
			first, second := wholeRows(m), wholeRows(n)
			growth.Times(m, n)
			growth.Times(m, m)
			if !reflect.DeepEqual(wholeRows(m), first) || !reflect.DeepEqual(wholeRows(n), second) {
				t.Error(brief(a), brief(b))
			}
		}
	}
}

// area is a piece of memory.
type area struct{ from, to uintptr }

func areaOf[T any](list []T) []area {
	if cap(list) == 0 {
		return nil
	}
	var one T
	from := uintptr(unsafe.Pointer(unsafe.SliceData(list)))
	return []area{{from, from + uintptr(cap(list))*unsafe.Sizeof(one)}}
}

// apart reports whether no two slices of matrices and counts share memory. It takes what holds them, too, as memory that is no longer held may become another slice's.
func apart(matrices []rows, counts ...[]int64) bool {
	var all []area
	for _, m := range matrices {
		all = append(all, areaOf(m)...)
		for _, row := range m {
			all = append(all, areaOf(row)...)
		}
	}
	for _, c := range counts {
		all = append(all, areaOf(c)...)
	}
	slices.SortFunc(all, func(p, q area) int { return cmp.Compare(p.from, q.from) })
	for i := 1; i < len(all); i++ {
		if all[i].from < all[i-1].to {
			return false
		}
	}
	runtime.KeepAlive(matrices)
	runtime.KeepAlive(counts)
	return true
}

func TestResultsShareNoMemory(t *testing.T) {
	for _, s := range goods() {
		var matrices []rows
		var counts [][]int64
		for range 2 {
			m, _ := growth.Matrix(s.rules, s.names)
			product, _ := growth.Times(m, m)
			unchanged, _ := growth.Times(m, unit(len(m), 1))
			same, _ := growth.Times(unit(len(m), 1), m)
			matrices = append(matrices, m, product, unchanged, same)
			for n := range 4 {
				c, _ := growth.Counts(s.rules, s.names, plain(s.names+s.names), n)
				counts = append(counts, c)
			}
		}
		if !apart(matrices, counts...) {
			t.Error(brief(s))
		}
	}
	for _, a := range someRows() {
		for _, b := range someRows() {
			m, n := freshRows(a), freshRows(b)
			product, _ := growth.Times(m, n)
			square, _ := growth.Times(m, m)
			if !apart([]rows{m, n, product, square}) {
				t.Error(brief(a), brief(b))
			}
		}
	}
}

// Both arguments, and rows of them, may be in the same memory; rows of the product have their own.
func TestRowsOfResultsShareNoMemory(t *testing.T) {
	row := []int64{1, 2}
	m := rows{row, row}
	for range 2 {
		product, e := growth.Times(m, m)
		if !agree(product, e, rows{{3, 6}, {3, 6}}, api.OK) || !apart([]rows{product}, row) {
			t.Fatal(product, e)
		}
		product[0][0], product[1][1] = -1, -2
		if !agree(m, api.OK, rows{{1, 2}, {1, 2}}, api.OK) || product[1][0] != 3 || product[0][1] != 6 {
			t.Fatal(m, product)
		}
	}
	// Names with the same successor have a row each.
	same, e := growth.Matrix(system("A=AB B=AB C=BA"), "ABC")
	if !agree(same, e, filledRows([]int64{1, 1, 0}, 3), api.OK) || !apart([]rows{same}) {
		t.Error(same, e)
	}
}

// filledRows returns so many copies of a row.
func filledRows(row []int64, n int) rows {
	var m rows
	for range n {
		m = append(m, slices.Clone(row))
	}
	return m
}

// What is put behind a slice of a result changes no other one.
func TestResultsCanGrow(t *testing.T) {
	for range 2 {
		m, e := growth.Matrix(fibonacci(), "AB")
		product, f := growth.Times(m, m)
		counts, g := growth.Counts(fibonacci(), "AB", plain("A"), 5)
		for _, row := range slices.Concat(m, product, rows{counts}) {
			longer := append(row, 7, 8, 9)
			if len(longer) != len(row)+3 {
				t.Error(longer)
			}
		}
		if !agree(m, e, rows{{1, 1}, {1, 0}}, api.OK) || !agree(product, f, rows{{2, 1}, {1, 1}}, api.OK) || !agrees(counts, g, []int64{8, 5}, api.OK) {
			t.Error(m, product, counts, e, f, g)
		}
	}
}

func TestNothingIsKept(t *testing.T) {
	for range 3 {
		rules, w := fibonacci(), plain("A")
		m, e := growth.Matrix(rules, "AB")
		product, f := growth.Times(m, m)
		counts, g := growth.Counts(rules, "AB", w, 5)
		length, h := growth.Length(rules, "AB", w, 30)
		if !agree(m, e, rows{{1, 1}, {1, 0}}, api.OK) || !agree(product, f, rows{{2, 1}, {1, 1}}, api.OK) || !agrees(counts, g, []int64{8, 5}, api.OK) || length != 2178309 || h != api.OK {
			t.Fatal(m, product, counts, length, e, f, g, h)
		}
		for _, row := range slices.Concat(m, product, rows{counts}) {
			for i := range row {
				row[i] = -1
			}
		}
		rules[0].Out[0].Name, w[0].Name = '#', '#'
	}
	// An error changes nothing for later calls.
	for _, s := range someWrongs() {
		growth.Matrix(s.rules, s.names)
		growth.Counts(s.rules, s.names, plain("A"), 60)
		growth.Times(filled(2, 2, most), filled(2, 2, most))
		expect(t, fibonacci(), "AB", plain("A"), 5, []int64{8, 5}, api.OK)
	}
}

// The same rules, word and rows may change between two calls.
func TestCallsSeeChanges(t *testing.T) {
	rules, w := fibonacci(), plain("AB")
	expect(t, rules, "AB", w, 1, []int64{2, 1}, api.OK)
	rules[1].Out = append(rules[1].Out, put('A'))
	expect(t, rules, "AB", w, 1, []int64{3, 1}, api.OK)
	rules[0].Name = 'C'
	expect(t, rules, "AB", w, 1, nil, api.ErrBad)
	expect(t, rules, "ABC", w, 1, []int64{3, 0, 0}, api.OK)
	w[1].Name = '['
	expect(t, rules, "ABC", w, 1, nil, api.ErrOpen)
	w[1] = with('C')
	expect(t, rules, "ABC", w, 1, []int64{2, 1, 0}, api.OK)
	a, b := rows{{2}}, rows{{3}}
	multiply(t, a, b, rows{{6}}, api.OK)
	a[0][0] = most
	multiply(t, a, b, nil, api.ErrRange)
	b[0][0] = 1
	multiply(t, a, b, rows{{most}}, api.OK)
	b[0] = nil
	multiply(t, a, b, nil, api.ErrBad)
}

// Asked by many at a time, all calls have the same results.
func TestCallsAtTheSameTime(t *testing.T) {
	type call struct {
		s      plainSystem
		w      []mod
		n      int
		counts []int64
		e      api.Errno
	}
	var calls []call
	for i, s := range goods() {
		w := plain(s.names + "[" + s.names + "]")
		for _, n := range []int{0, 1, i % 10, 60} {
			counts, e := counted(grown(s.rules, s.names, w, n), n)
			calls = append(calls, call{s, w, n, counts, e})
		}
	}
	done := make(chan bool)
	for range 4 {
		go func() {
			same := true
			for _, c := range calls {
				counts, e := growth.Counts(c.s.rules, c.s.names, c.w, c.n)
				m, f := growth.Matrix(c.s.rules, c.s.names)
				same = same && agrees(counts, e, c.counts, c.e) && agree(m, f, drawn(c.s.rules, c.s.names), api.OK)
			}
			done <- same
		}()
	}
	for range 4 {
		if !<-done {
			t.Error("other results")
		}
	}
}

// Calls with arguments of all kinds end, and have no other results with an error.
func TestNoCallPanics(t *testing.T) {
	systems := append(allSystems(), wrong{rules: []rule{{}}}, wrong{rules: make([]rule, 5), names: "\x00"}, wrong{names: strings.Repeat("\xff", 1<<20)}, wrong{rules: []rule{{Name: 'A', Arity: math.MinInt}}, names: "A"}, wrong{rules: []rule{{Name: 'A', Arity: math.MaxInt, Guards: []form{{}}, Out: []shape{{}}}}, names: "A"})
	words := append(someWords(), []mod{{}}, []mod{{Args: []int{1}}}, []mod{with(0xff, 1, 2, 3, 4, 5, 6)}, make([]mod, 1<<20))
	for _, s := range systems {
		if m, e := growth.Matrix(s.rules, s.names); e != api.OK && len(m) > 0 {
			t.Error(brief(s), brief(m), e)
		}
		for _, w := range words {
			for _, n := range []int{math.MinInt, -1, 0, 1, 60, 61, math.MaxInt} {
				counts, e := growth.Counts(s.rules, s.names, w, n)
				length, f := growth.Length(s.rules, s.names, w, n)
				if e != api.OK && len(counts) > 0 || f != api.OK && length != 0 {
					t.Error(brief(s), brief(w), n, counts, length, e, f)
				}
			}
		}
	}
	list := append(someRows(), make(rows, 5), rows{nil, {}}, rows{{math.MinInt64}}, rows{{math.MaxInt64}}, make(rows, 1<<20), rows{make([]int64, 1<<20)})
	for _, a := range list {
		for _, b := range list {
			if m, e := growth.Times(a, b); e != api.OK && len(m) > 0 {
				t.Error(brief(a), brief(b), brief(m), e)
			}
		}
	}
}
