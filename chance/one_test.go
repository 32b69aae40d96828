package chance_test

import (
	"fmt"
	"math"
	"math/rand"
	"slices"
	"strings"
	"testing"

	"gambrel/api"
	"gambrel/chance"
)

// one checks the successors of a cell for many seeds.
func one(t *testing.T, rules []rule, c cell, want []cell) {
	t.Helper()
	for _, from := range seeds {
		if l, e := chance.One(rules, from, c); !is(l, e, want) {
			t.Error(brief(rules), from, show([]cell{c}, l, want), e)
		}
	}
}

// without checks that One has an error, for many seeds.
func without(t *testing.T, rules []rule, c cell, want api.Errno) {
	t.Helper()
	for _, from := range seeds {
		if l, e := chance.One(rules, from, c); !none(l, e, want) {
			t.Error(brief(rules), from, show([]cell{c}, l), e, want)
		}
	}
}

// Where at most one rule fits, the seed does not matter.
func TestOneWithoutChoice(t *testing.T) {
	a := letters('A', "BC")
	long := strings.Repeat("BCDEF", 4)
	for _, c := range []struct {
		rules   []rule
		path, m string
		w       string
		paths   string
	}{
		// The chapter's example.
		{[]rule{a}, "2", "A", "BC", "2/0 2/1"},
		// No rule that fits: none at all, of another name, and of another number of Args.
		{nil, "2", "A", "A", "2"}, {[]rule{}, "12/3", "A(1,2)", "A(1,2)", "12/3"}, {[]rule{a}, "2", "B", "B", "2"}, {[]rule{a}, "0", "A(1)", "A(1)", "0"}, {[]rule{a}, "0", "a", "a", "0"}, {[]rule{to('A', 2)}, "0", "A(1)", "A(1)", "0"}, {[]rule{letters('B', ""), letters('C', "")}, "/", "A", "A", "/"},
		// A guard that fails, and one that does not.
		{[]rule{when(a, sum(-1))}, "2", "A", "A", "2"}, {[]rule{when(a, sum(0))}, "2", "A", "BC", "2/0 2/1"}, {[]rule{when(a, sum(0), sum(1), sum(-1))}, "2", "A", "A", "2"}, {[]rule{when(to('A', 1, put('B')), sum(-5, 1))}, "2", "A(5)", "B", "2/0"}, {[]rule{when(to('A', 1, put('B')), sum(-5, 1))}, "2", "A(4)", "A(4)", "2"},
		// The one rule that fits stands first, last, or between others.
		{[]rule{a, letters('B', "D"), to('A', 1)}, "7", "A", "BC", "7/0 7/1"}, {[]rule{letters('B', "D"), to('A', 1), a}, "7", "A", "BC", "7/0 7/1"}, {[]rule{letters('B', "D"), a, when(letters('A', "E"), sum(-1))}, "7", "A", "BC", "7/0 7/1"}, {[]rule{weigh(1000000, letters('B', "D")), a, weigh(1000000, when(letters('A', "E"), sum(-1)))}, "7", "A", "BC", "7/0 7/1"}, {[]rule{weigh(1000000, a)}, "7", "A", "BC", "7/0 7/1"},
		// An Out of no shapes, of one, and of more than ten.
		{[]rule{letters('A', "")}, "5", "A", "", ""}, {[]rule{letters('A', "A")}, "5", "A", "A", "5/0"}, {[]rule{letters('A', "BCDEFBCDEFB")}, "5", "A", "BCDEFBCDEFB", "5/0 5/1 5/2 5/3 5/4 5/5 5/6 5/7 5/8 5/9 5/10"}, {[]rule{letters('A', long)}, "5", "A", long, "5/0 5/1 5/2 5/3 5/4 5/5 5/6 5/7 5/8 5/9 5/10 5/11 5/12 5/13 5/14 5/15 5/16 5/17 5/18 5/19"},
		// Brackets count as shapes.
		{[]rule{letters('A', "[A]A")}, "5", "A", "[A]A", "5/0 5/1 5/2 5/3"}, {[]rule{letters('A', "[[]]")}, "1/3", "A", "[[]]", "1/3/0 1/3/1 1/3/2 1/3/3"},
		// Other forms of paths: they are only put in front.
		{[]rule{a}, "/", "A", "BC", "//0 //1"}, {[]rule{a}, "0/", "A", "BC", "0//0 0//1"}, {[]rule{a}, "007", "A", "BC", "007/0 007/1"}, {[]rule{a}, "12/3/19/0", "A", "BC", "12/3/19/0/0 12/3/19/0/1"},
		// Values of Args.
		{[]rule{to('A', 1, put('A', sum(1, 1)), put('B'), put('C', sum(0, 2), sum(7, 0), sum(0, -1), sum(-3, 1)))}, "4", "A(5)", "A(6)BC(10,7,-5,2)", "4/0 4/1 4/2"}, {[]rule{to('A', 2, put('A', sum(0, 0, 1), sum(0, 1, 0)))}, "4", "A(1,2)", "A(2,1)", "4/0"}, {[]rule{to('A', 0, put('A', sum(1000000)))}, "4", "A", "A(1000000)", "4/0"}, {[]rule{to('+', 4, put('-', sum(0, 1, 10, 100, 1000)))}, "4", "+(1,2,3,4)", "-(4321)", "4/0"},
		{[]rule{to('A', 1, put('A', sum(0, 1)))}, "4", "A(1000000000)", "A(1000000000)", "4/0"}, {[]rule{to('A', 1, put('A', sum(0, -1)))}, "4", "A(1000000000)", "A(-1000000000)", "4/0"}, {[]rule{to('A', 1, put('A', sum(1, 1)))}, "4", "A(999999999)", "A(1000000000)", "4/0"},
	} {
		one(t, c.rules, at(c.path, read(c.m)[0]), placed(read(c.w), c.paths))
	}
}

// A bracket alone is a module, which no rule fits.
func TestOneOfABracket(t *testing.T) {
	for _, name := range []byte("[]") {
		for _, rules := range goods() {
			for _, path := range []string{"0", "3/1", strings.Repeat("/", 200)} {
				one(t, rules, at(path, with(name)), []cell{at(path, with(name))})
			}
		}
		without(t, bush(), at("0", with(name, 1)), api.ErrBad)
		without(t, nil, at("", with(name)), api.ErrBad)
	}
}

// What is chosen for some seeds and paths, worked out outside of the program.
func TestOneOfKnownChoices(t *testing.T) {
	paths := []string{"0", "1", "2", "2/0", "2/1", "/", "1999", "12/3/19"}
	for _, c := range []struct {
		weights []int
		from    int64
		chosen  []int
	}{
		{[]int{1, 1}, 0, []int{0, 1, 0, 0, 0, 1, 0, 0}}, {[]int{1, 1}, 1, []int{1, 0, 1, 1, 0, 1, 1, 0}}, {[]int{1, 1}, -1, []int{0, 1, 0, 0, 1, 0, 0, 1}}, {[]int{1, 1}, math.MaxInt64, []int{1, 0, 0, 1, 0, 1, 0, 1}}, {[]int{1, 1}, math.MinInt64, []int{0, 0, 0, 1, 1, 1, 1, 1}},
		{[]int{1, 2, 3}, 0, []int{0, 1, 0, 2, 0, 2, 2, 2}}, {[]int{1, 2, 3}, 1, []int{1, 0, 2, 2, 2, 1, 2, 1}}, {[]int{1, 2, 3}, -1, []int{1, 2, 2, 0, 2, 0, 1, 2}}, {[]int{1, 2, 3}, math.MaxInt64, []int{1, 1, 0, 2, 1, 2, 0, 2}}, {[]int{1, 2, 3}, math.MinInt64, []int{2, 1, 0, 2, 2, 1, 1, 2}},
		{[]int{5, 1, 1, 5}, 0, []int{0, 3, 2, 3, 2, 0, 0, 0}}, {[]int{5, 1, 1, 5}, 1, []int{3, 0, 1, 3, 0, 0, 3, 0}}, {[]int{5, 1, 1, 5}, -1, []int{0, 3, 0, 2, 3, 2, 0, 3}}, {[]int{5, 1, 1, 5}, math.MaxInt64, []int{0, 0, 0, 3, 3, 0, 0, 3}}, {[]int{5, 1, 1, 5}, math.MinInt64, []int{0, 3, 2, 0, 3, 3, 3, 1}},
	} {
		var rules []rule
		for i, weight := range c.weights {
			rules = append(rules, weigh(weight, letters('X', names[i:i+1])))
		}
		for i, path := range paths {
			want := []cell{at(path+"/0", with(names[c.chosen[i]]))}
			if l, e := chance.One(rules, c.from, at(path, with('X'))); !is(l, e, want) {
				t.Error(c, path, show(l), e)
			}
		}
	}
}

// Of all rules that fit, layer 5 picks one: those that do not, of other names, of other numbers of Args, and with guards that fail, count for nothing.
func TestOneOfSeveralRules(t *testing.T) {
	r := rand.New(rand.NewSource(96))
	rules := func(weights ...int) []rule {
		var list []rule
		for i, weight := range weights {
			list = append(list, weigh(weight, letters('A', names[i:i+1])))
		}
		return list
	}
	lists := [][]rule{
		rules(1), rules(1, 1), rules(1, 2), rules(2, 1), rules(1, 1000000), rules(1000000, 1), rules(1, 1, 1, 1, 1, 1, 1), rules(3, 5, 2, 9), rules(slices.Repeat([]int{1000000}, 40)...), rules(slices.Repeat([]int{7, 1}, 20)...),
		// With rules that do not fit between others.
		{letters('A', "B"), weigh(9, letters('B', "C")), letters('A', "D")}, {letters('A', "B"), weigh(9, to('A', 1, put('C'))), letters('A', "D")}, {letters('A', "B"), weigh(9, when(letters('A', "C"), sum(-1))), letters('A', "D")}, {weigh(5, letters('C', "")), letters('A', "B"), weigh(9, when(letters('A', "C"), sum(0), sum(-1))), weigh(2, letters('A', "D")), weigh(1000000, to('A', 4))},
	}
	for _, rules := range lists {
		var results []string
		for range 400 {
			from, c := someSeed(r), at(somePath(r)[:1]+fmt.Sprint(r.Intn(10000)), with('A'))
			want, _ := become(rules, from, c)
			l, e := chance.One(rules, from, c)
			if !is(l, e, want) {
				t.Fatal(brief(rules), from, show([]cell{c}, l, want), e)
			}
			// The same ones each time.
			if again, e := chance.One(rules, from, c); !is(again, e, want) {
				t.Fatal(brief(rules), from, show([]cell{c}, again, want), e)
			}
			results = append(results, string(l[0].Module.Name))
		}
		slices.Sort(results)
		if kinds := len(slices.Compact(results)); len(rules) > 2 && kinds < 2 {
			t.Error(brief(rules), kinds)
		}
	}
}

// Of several rules, the one of the seed's choice and no other: also which of them has an error depends on it.
func TestOneOfAnErrorThatIsChosen(t *testing.T) {
	rules := []rule{to('A', 1, put('A', sum(1, 1))), to('A', 1, put('B'))}
	failed, fine := 0, 0
	for k := range 200 {
		c := at(fmt.Sprint(k), with('A', top))
		l, e := chance.One(rules, 5, c)
		want, wantError := become(rules, 5, c)
		if !agrees(l, e, want, wantError) {
			t.Error(k, show(l), e)
		}
		if e == api.ErrRange {
			failed++
		} else if is(l, e, []cell{at(c.Path+"/0", with('B'))}) {
			fine++
		}
	}
	if failed < 50 || fine < 50 || failed+fine != 200 {
		t.Error(failed, fine)
	}
}

// Other seeds and other paths make other choices, about as often one as the other.
func TestOneOfOtherSeedsAndPaths(t *testing.T) {
	rules := []rule{letters('A', "B"), letters('A', "C")}
	bySeed, byPath := map[byte]int{}, map[byte]int{}
	for k := range 1000 {
		l, e := chance.One(rules, int64(k-500), at("0", with('A')))
		m, f := chance.One(rules, 1, at(fmt.Sprint(k), with('A')))
		if e != api.OK || f != api.OK || len(l) != 1 || len(m) != 1 {
			t.Fatal(k, show(l, m), e, f)
		}
		bySeed[l[0].Module.Name]++
		byPath[m[0].Module.Name]++
	}
	for _, counts := range []map[byte]int{bySeed, byPath} {
		if counts['B']+counts['C'] != 1000 || counts['B'] < 400 || counts['C'] < 400 {
			t.Error(counts)
		}
	}
}

// The choice does not depend on the module, but for which rules fit.
func TestOneOfOtherModules(t *testing.T) {
	rules := []rule{letters('A', "B"), letters('Z', "B"), letters('A', "CD"), letters('Z', "CD"), to('A', 1, put('B')), to('A', 1, put('C'), put('D'))}
	for k := range 300 {
		path := fmt.Sprint(k)
		first, _ := chance.One(rules, 9, at(path, with('A')))
		for _, m := range []mod{with('Z'), with('A', 5), with('A', -top)} {
			if l, e := chance.One(rules, 9, at(path, m)); !is(l, e, first) {
				t.Error(path, m, show(first, l), e)
			}
		}
	}
}

// How often each of several rules is chosen over many paths.
func TestOneOfManyPaths(t *testing.T) {
	const count = 20000
	for _, weights := range [][]int{{1, 1}, {1, 3}, {3, 1}, {1, 2, 3, 4}, {10, 1, 10}, {1000000, 500000, 250000}, slices.Repeat([]int{5}, 20)} {
		var rules []rule
		total := 0
		for i, weight := range weights {
			rules = append(rules, weigh(weight, letters('A', names[i:i+1])))
			total += weight
		}
		chosen := map[byte]int{}
		for k := range count {
			l, e := chance.One(rules, 11, at(fmt.Sprintf("%d/%d", k%50, k/50), with('A')))
			if e != api.OK || len(l) != 1 {
				t.Fatal(k, show(l), e)
			}
			chosen[l[0].Module.Name]++
		}
		for i, weight := range weights {
			got, want := chosen[names[i]], count*weight/total
			if got < want*4/5 || got > want*6/5 {
				t.Error(weights, i, got, want)
			}
		}
	}
}

// Values of Args at the limits, in all places of an Out.
func TestOneOfValues(t *testing.T) {
	for _, c := range []struct {
		f    form
		x, v int
		e    api.Errno
	}{
		{sum(0, 1), top, top, api.OK}, {sum(0, 1), -top, -top, api.OK}, {sum(1, 1), top - 1, top, api.OK}, {sum(-1, 1), 1 - top, -top, api.OK}, {sum(0, 1000000), 1000, top, api.OK}, {sum(0, 1000000), -1000, -top, api.OK}, {sum(0, -1), top, -top, api.OK},
		{sum(1, 1), top, 0, api.ErrRange}, {sum(-1, 1), -top, 0, api.ErrRange}, {sum(1, 1000000), 1000, 0, api.ErrRange}, {sum(-1, 1000000), -1000, 0, api.ErrRange}, {sum(0, 2), top, 0, api.ErrRange}, {sum(0, -1000000), top, 0, api.ErrRange}, {sum(0, 1<<16), 1 << 16, 0, api.ErrRange}, {sum(0, 1000000), top, 0, api.ErrRange},
	} {
		fine, zero := sum(0, 0), with('F', 0)
		for _, p := range []struct {
			out  []shape
			want []mod
		}{
			{[]shape{put('F', c.f)}, []mod{with('F', c.v)}},
			{[]shape{put('F', fine), put('F', fine, fine, fine, c.f)}, []mod{zero, with('F', 0, 0, 0, c.v)}},
			{[]shape{put('['), put('F', fine, c.f, fine), put(']'), put('F', fine)}, []mod{with('['), with('F', 0, c.v, 0), with(']'), zero}},
			{append(slices.Repeat([]shape{put('F', fine)}, 19), put('F', c.f)), append(slices.Repeat([]mod{zero}, 19), with('F', c.v))},
		} {
			rules := []rule{letters('A', "B"), weigh(8, to('A', 1, p.out...))}
			begin := at("3/4", with('A', c.x))
			if c.e != api.OK {
				without(t, rules, begin, c.e)
				continue
			}
			var want []cell
			for i, m := range p.want {
				want = append(want, at(fmt.Sprintf("3/4/%d", i), m))
			}
			one(t, rules, begin, want)
		}
	}
}

// Paths of successors with as many bytes as there may be, and one more.
func TestOneOfLongPaths(t *testing.T) {
	for _, fill := range []string{"0", "/", "12/"} {
		of := func(n int) string { return strings.Repeat(fill, n)[:n] }
		for _, c := range []struct {
			length, shapes int
			fine           bool
		}{
			{190, 20, true}, {196, 20, true}, {197, 20, true}, {197, 11, true}, {198, 1, true}, {198, 10, true}, {198, 11, false}, {198, 20, false}, {199, 1, false}, {199, 10, false}, {200, 1, false}, {200, 20, false}, {199, 0, true}, {200, 0, true}, {1, 20, true},
		} {
			rules := []rule{letters('A', strings.Repeat("F", c.shapes))}
			begin := at(of(c.length), with('A'))
			if !c.fine {
				without(t, rules, begin, api.ErrMany)
				continue
			}
			var want []cell
			for i := range c.shapes {
				want = append(want, at(fmt.Sprintf("%s/%d", begin.Path, i), with('F')))
			}
			one(t, rules, begin, want)
			// The cell itself keeps its path.
			one(t, rules, at(begin.Path, with('B')), []cell{at(begin.Path, with('B'))})
		}
	}
}

// Which error comes first where several hold.
func TestOneWithSeveralErrors(t *testing.T) {
	goodCells := []cell{at("0", with('A')), at("1/2", with('['))}
	var badCells []cell
	for _, path := range wrongPaths() {
		badCells = append(badCells, at(path, with('A')), at(path, with('#')), at(path, with('A', top)))
	}
	for _, m := range wrongModules() {
		badCells = append(badCells, at("0", m), at(strings.Repeat("0", 200), m), at("", m))
	}
	for _, c := range fewWrongs() {
		for _, l := range [][]cell{goodCells, badCells[:9], badCells[len(badCells)-9:]} {
			for _, b := range l {
				without(t, c.rules, b, c.e)
			}
		}
	}
	over := to('A', 1, put('A', sum(1, 1)))
	for _, rules := range [][]rule{nil, bush(), {over}, largest()} {
		for _, b := range badCells {
			if l, e := chance.One(rules, 3, b); !none(l, e, api.ErrBad) {
				t.Error(brief(rules), show([]cell{b}, l), e)
			}
		}
	}
	// A value out of range comes before a path that is too long, wherever they are.
	early := to('A', 1, append([]shape{put('A', sum(1, 1))}, slices.Repeat([]shape{put('F')}, 19)...)...)
	late := to('A', 1, append(slices.Repeat([]shape{put('F')}, 19), put('A', sum(1, 1)))...)
	for _, r := range []rule{over, early, late} {
		for _, n := range []int{1, 197, 198, 199, 200} {
			path := strings.Repeat("0", n)
			without(t, []rule{r}, at(path, with('A', top)), api.ErrRange)
			if n >= 199 {
				without(t, []rule{r}, at(path, with('A', top-1)), api.ErrMany)
			}
		}
	}
	for _, r := range wrongRules() {
		if l, e := chance.One([]rule{letters('A', "F"), r}, 0, at("0", with('A'))); !none(l, e, api.ErrBad) {
			t.Error(brief(r), show(l), e)
		}
	}
	for _, r := range crowdedRules() {
		if l, e := chance.One([]rule{letters('A', "F"), r}, 0, at("0", with('A'))); !none(l, e, api.ErrMany) {
			t.Error(brief(r), show(l), e)
		}
	}
}

func TestOneOfManyCells(t *testing.T) {
	r := rand.New(rand.NewSource(97))
	counts := map[api.Errno]int{}
	several := 0
	for range 20000 {
		rules, from := someRules(r), someSeed(r)
		c := someCells(r, 1)[0]
		l, e := chance.One(rules, from, c)
		want, wantError := become(rules, from, c)
		if !agrees(l, e, want, wantError) {
			t.Fatal(rules, from, show([]cell{c}, l, want), e, wantError)
		}
		counts[e]++
		if len(fitting(rules, c.Module)) > 1 {
			several++
		}
	}
	if counts[api.OK] < 5000 || counts[api.ErrRange] < 100 || counts[api.ErrMany] < 50 || several < 5000 {
		t.Error(counts, several)
	}
}
