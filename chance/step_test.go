package chance_test

import (
	"math/rand"
	"slices"
	"strings"
	"testing"

	"gambrel/api"
	"gambrel/chance"
)

func TestStep(t *testing.T) {
	for _, c := range []struct {
		rules     []rule
		w, paths  string
		want, new string // the word after the step, and its paths
	}{
		{[]rule{letters('A', "BC")}, "F[A]", "0 1 2 3", "F[BC]", "0 1 2/0 2/1 3"}, {[]rule{letters('A', "BC")}, "AA", "0 1", "BCBC", "0/0 0/1 1/0 1/1"}, {[]rule{letters('A', "")}, "A[A]", "0 1 2 3", "[]", "1 3"}, {[]rule{letters('A', ""), letters('B', "AA")}, "ABA", "0 1 2", "AA", "1/0 1/1"}, {nil, "A[B(1,2)]", "0 1 2 3", "A[B(1,2)]", "0 1 2 3"},
		// All at once: what a module becomes is not replaced in the same step.
		{[]rule{letters('A', "B"), letters('B', "A")}, "ABA", "5 6 7", "BAB", "5/0 6/0 7/0"}, {[]rule{letters('A', "AA")}, "A[A]", "0/0 1 2 3", "AA[AA]", "0/0/0 0/0/1 1 2/0 2/1 3"},
		// Values of Args, each of its own module.
		{[]rule{to('A', 1, put('A', sum(1, 1)), put('B', sum(0, 2)))}, "A(1)A(5)A", "0 1 2", "A(2)B(2)A(6)B(10)A", "0/0 0/1 1/0 1/1 2"},
		// Paths of any form, and cells that share one.
		{[]rule{letters('A', "AB")}, "AAA", "0 0 0", "ABABAB", "0/0 0/1 0/0 0/1 0/0 0/1"}, {[]rule{letters('A', "B")}, "AA[A]", "/ 1/2 / 007 1", "BB[B]", "//0 1/2/0 / 007/0 1"}, {[]rule{letters('A', "[]")}, "[A]", "3 2 1", "[[]]", "3 2/0 2/1 1"},
	} {
		for _, from := range seeds {
			l, e := chance.Step(c.rules, from, placed(read(c.w), c.paths))
			if !is(l, e, placed(read(c.want), c.new)) {
				t.Error(c, from, show(l), e)
			}
		}
	}
}

func TestStepOfNoCells(t *testing.T) {
	for _, rules := range goods() {
		for _, empty := range [][]cell{nil, {}, make([]cell, 0, 10), []cell{at("#", with(']'))}[:0]} {
			for _, from := range seeds {
				if l, e := chance.Step(rules, from, empty); !is(l, e, nil) {
					t.Error(brief(rules), from, show(l), e)
				}
			}
		}
	}
}

// Cells that share a path, and a module, have the same successors; with another path they may have others.
func TestStepOfCellsThatShareAPath(t *testing.T) {
	rules := []rule{letters('A', "B"), letters('A', "CD"), letters('A', ""), letters('A', "+")}
	differ := 0
	for _, from := range seeds {
		for _, path := range []string{"0", "1", "2", "12/3", "/"} {
			once, _ := chance.One(rules, from, at(path, with('A')))
			for _, n := range []int{2, 63, 64, 65, 130, 900} {
				want := slices.Repeat(once, n)
				if l, e := chance.Step(rules, from, slices.Repeat([]cell{at(path, with('A'))}, n)); !is(l, e, want) {
					t.Error(from, path, n, show(l, want), e)
				}
			}
			other, _ := chance.One(rules, from, at(path+"0", with('A')))
			if len(once) != len(other) || len(once) > 0 && once[0].Module.Name != other[0].Module.Name {
				differ++
			}
		}
	}
	if differ < 20 {
		t.Error(differ)
	}
}

// As many cells as goroutines may share in different ways, each with successors that tell which one it was.
func TestStepOfManyNumbersOfCells(t *testing.T) {
	rules := []rule{to('A', 1, put('A', sum(1, 1))), weigh(2, to('A', 1, put('B', sum(0, 1)), put('C', sum(0, -1)))), to('A', 1)}
	for n := range 1000 {
		if n > 260 && n%64 > 1 && n%100 > 1 {
			continue
		}
		var l []cell
		for i, c := range begun(plain(strings.Repeat("A", n))) {
			l = append(l, at(c.Path, with('A', i)))
		}
		next, e := chance.Step(rules, 77, l)
		if want, _ := stepped(rules, 77, l); !is(next, e, want) {
			t.Fatal(n, show(next, want), e)
		}
	}
}

func TestStepToMaxWord(t *testing.T) {
	twenty, double := []rule{letters('A', strings.Repeat("F", 20))}, []rule{letters('A', "AA")}
	for _, c := range []struct {
		rules []rule
		w     string
		count int // 0: too many
	}{
		{twenty, strings.Repeat("A", 100), 2000}, {twenty, strings.Repeat("A", 100) + "B", 0}, {twenty, "B" + strings.Repeat("A", 100), 0}, {twenty, strings.Repeat("A", 99) + strings.Repeat("B", 20), 2000}, {twenty, strings.Repeat("A", 99) + strings.Repeat("B", 21), 0}, {twenty, strings.Repeat("A", 101), 0}, {twenty, strings.Repeat("A", 2000), 0}, {twenty, strings.Repeat("B", 2000), 2000},
		{double, strings.Repeat("A", 1000), 2000}, {double, strings.Repeat("A", 999) + "B", 1999}, {double, strings.Repeat("A", 1000) + "B", 0}, {double, strings.Repeat("A", 1001), 0}, {[]rule{letters('A', "F")}, strings.Repeat("A", 2000), 2000}, {nil, strings.Repeat("[", 1000) + strings.Repeat("]", 1000), 2000}, {[]rule{letters('A', "[]")}, strings.Repeat("A", 1000), 2000}, {[]rule{letters('A', "[]")}, strings.Repeat("A", 1000) + "B", 0},
		// What becomes more and what becomes less make up for each other, in whichever order.
		{[]rule{letters('B', "FF"), letters('A', "")}, strings.Repeat("AB", 1000), 2000}, {[]rule{letters('B', "FF"), letters('A', "")}, strings.Repeat("B", 1000) + strings.Repeat("A", 1000), 2000}, {[]rule{letters('B', "FFF"), letters('A', "")}, strings.Repeat("BA", 666), 1998}, {[]rule{letters('B', "FFF"), letters('A', "")}, strings.Repeat("BA", 667), 0},
	} {
		l := begun(plain(c.w))
		next, e := chance.Step(c.rules, 3, l)
		want, _ := stepped(c.rules, 3, l)
		if c.count == 0 && !none(next, e, api.ErrMany) || c.count > 0 && !is(next, e, want) || len(next) != c.count {
			t.Error(brief(c.rules), brief(c.w), len(next), show(next), e)
		}
	}
}

// The error of the first cell that has one, wherever it stands, comes before that of a later one, and before too many cells.
func TestStepWithTheFirstError(t *testing.T) {
	rules := []rule{to('A', 1, put('A', sum(1, 1))), letters('B', "B"), letters('G', strings.Repeat("F", 20))}
	over := at("0", with('A', top))
	long := at(strings.Repeat("0", 199), with('B'))
	for _, n := range []int{2, 3, 65, 128, 2000} {
		for _, places := range [][2]int{{0, 1}, {0, n - 1}, {n - 2, n - 1}, {n / 2, n - 1}, {n / 3, n / 2}} {
			if places[0] == places[1] {
				continue
			}
			for _, fill := range []byte("FG") {
				l := slices.Repeat([]cell{at("1", with(fill))}, n)
				l[places[0]], l[places[1]] = over, long
				if next, e := chance.Step(rules, 1, l); !none(next, e, api.ErrRange) {
					t.Error(n, places, show(next), e)
				}
				l[places[0]], l[places[1]] = long, over
				if next, e := chance.Step(rules, 1, l); !none(next, e, api.ErrMany) {
					t.Error(n, places, show(next), e)
				}
				l[places[0]] = at("1", with('F'))
				if next, e := chance.Step(rules, 1, l); !none(next, e, api.ErrRange) {
					t.Error(n, places, show(next), e)
				}
				l[places[1]] = long
				if next, e := chance.Step(rules, 1, l); !none(next, e, api.ErrMany) {
					t.Error(n, places, show(next), e)
				}
			}
		}
	}
	// A path that is too long, of a cell that no rule fits, or that becomes nothing, is no error.
	for _, c := range []cell{at(strings.Repeat("0", 200), with('C')), at(strings.Repeat("/", 200), with('B', 1))} {
		if next, e := chance.Step(rules, 1, []cell{c}); !is(next, e, []cell{c}) {
			t.Error(show(next), e)
		}
	}
	if next, e := chance.Step([]rule{letters('B', "")}, 1, []cell{at(strings.Repeat("0", 200), with('B'))}); !is(next, e, nil) {
		t.Error(show(next), e)
	}
}

// The error of the rules comes first, then that of the cells, and only then all others.
func TestStepWithSeveralErrors(t *testing.T) {
	var bads [][]cell
	for _, c := range wrongWords() {
		bads = append(bads, begun(c.w))
	}
	for k, path := range wrongPaths() {
		if k%5 == 0 {
			bads = append(bads, []cell{at("0", with('A', top)), at(path, with('A'))}, []cell{at(path, with(']'))})
		}
	}
	fine := [][]cell{nil, begun(plain("A[A]")), {at("0", with('A', top))}, {at(strings.Repeat("0", 200), with('A'))}, begun(plain(strings.Repeat("A", 2000)))}
	for _, c := range fewWrongs() {
		for _, l := range slices.Concat(bads, fine) {
			if next, e := chance.Step(c.rules, 1, l); !none(next, e, c.e) {
				t.Error(brief(c.rules), show(l, next), e, c.e)
			}
		}
	}
	failing := []rule{to('A', 1, put('A', sum(1, 1))), letters('A', "AA"), letters('B', "")}
	for _, l := range bads {
		for _, rules := range [][]rule{nil, bush(), failing} {
			if next, e := chance.Step(rules, 1, l); !none(next, e, checked(l)) || e == api.OK {
				t.Error(brief(rules), show(l, next), e)
			}
		}
	}
	for _, r := range wrongRules() {
		if next, e := chance.Step([]rule{r}, 1, fine[1]); !none(next, e, api.ErrBad) {
			t.Error(brief(r), show(next), e)
		}
	}
	for _, r := range crowdedRules() {
		if next, e := chance.Step([]rule{r}, 1, fine[1]); !none(next, e, api.ErrMany) {
			t.Error(brief(r), show(next), e)
		}
	}
}

func TestStepOfManyLists(t *testing.T) {
	r := rand.New(rand.NewSource(98))
	counts := map[api.Errno]int{}
	compare := func(rules []rule, l []cell) {
		t.Helper()
		from := someSeed(r)
		next, e := chance.Step(rules, from, l)
		want, wantError := stepped(rules, from, l)
		if !agrees(next, e, want, wantError) {
			t.Fatal(rules, from, show(l, next, want), e, wantError)
		}
		counts[e]++
	}
	for range 5000 {
		compare(someRules(r), someCells(r, 1+r.Intn(20)))
	}
	for range 1000 {
		compare(someRules(r), begun(someWord(r, 1+r.Intn(200))))
	}
	for range 60 {
		compare(livelyRules(r), begun(someWord(r, 500+r.Intn(1000))))
	}
	if counts[api.OK] < 1000 || counts[api.ErrRange] < 50 || counts[api.ErrMany] < 50 {
		t.Error(counts)
	}
}
