package rewrite_test

import (
	"math/rand"
	"slices"
	"strings"
	"testing"

	"gambrel/api"
	"gambrel/rewrite"
)

func TestStep(t *testing.T) {
	swap := []rule{to('A', 2, put('A', sum(0, 0, 1), sum(0, 1, 0)))}
	for _, c := range []struct {
		rules   []rule
		w, want string
	}{
		// The chapter's example.
		{tree(), "A(2)", "F(2)[+A(1)]"}, {tree(), "F(2)[+A(1)]", "F(2)[+F(1)[+A(0)]]"}, {tree(), "F(2)[+F(1)[+A(0)]]", "F(2)[+F(1)[+F(0)]]"}, {tree(), "F(2)[+F(1)[+F(0)]]", "F(2)[+F(1)[+F(0)]]"},
		{tree(), "A(0)", "F(0)"}, {tree(), "A(-7)", "F(0)"}, {tree(), "A", "A"}, {tree(), "A(1,1)", "A(1,1)"}, {tree(), "A(3)A(2)", "F(3)[+A(2)]F(2)[+A(1)]"}, {tree(), "[A(1)]B[[]A(0)]", "[F(1)[+A(0)]]B[[]F(0)]"},
		// All at once.
		{[]rule{letters('A', "B"), letters('B', "A")}, "AB", "BA"}, {[]rule{letters('A', "AB"), letters('B', "A")}, "ABA", "ABAAB"}, {[]rule{letters('B', "A"), letters('A', "AB")}, "ABA", "ABAAB"}, {[]rule{letters('A', "AA")}, "A[A]A", "AA[AA]AA"}, {[]rule{letters('A', "BB"), letters('B', "CC")}, "A", "BB"},
		// That fit none, some and all of the modules.
		{[]rule{letters('A', "B")}, "CDC", "CDC"}, {[]rule{letters('A', "B")}, "CAC", "CBC"}, {[]rule{letters('A', "B")}, "ACA", "BCB"}, {[]rule{letters('A', "B")}, "AAA", "BBB"}, {[]rule{letters('A', "B")}, "a", "a"}, {[]rule{letters('+', "-"), letters('!', "|")}, "+-!|", "--||"},
		// Of an Out that is empty.
		{[]rule{letters('A', "")}, "A", ""}, {[]rule{letters('A', "")}, "AAA", ""}, {[]rule{letters('A', "")}, "BAB", "BB"}, {[]rule{letters('A', "")}, "[A]", "[]"}, {[]rule{letters('A', "")}, "A(0)A", "A(0)"}, {[]rule{{Name: 'A', Out: []shape{}}}, "ABA", "B"}, {[]rule{to('A', 2)}, "AA(1,2)B(1,2)", "AB(1,2)"},
		// The first rule that fits.
		{[]rule{letters('A', "B"), letters('A', "C")}, "A", "B"}, {[]rule{when(letters('A', "B"), sum(-1)), letters('A', "C")}, "A", "C"}, {[]rule{to('A', 1, put('B')), letters('A', "C")}, "AA(0)", "CB"}, {[]rule{when(letters('A', "B"), sum(0)), letters('A', "C")}, "A", "B"},
		// Values of Args.
		{[]rule{to('A', 1, put('A', sum(1, 1)))}, "A(5)A(-1)A", "A(6)A(0)A"}, {[]rule{to('A', 1, put('A', sum(0, 2), sum(0, -1), sum(9, 0), sum(-1, 10)))}, "A(3)", "A(6,-3,9,29)"}, {swap, "A(1,2)", "A(2,1)"}, {swap, "A(1,2)A(3)A(-4,0)", "A(2,1)A(3)A(0,-4)"}, {[]rule{to('A', 0, put('A', sum(7)))}, "AA(1)", "A(7)A(1)"}, {[]rule{to('A', 1, put('A'))}, "AA(1)", "AA"},
		{[]rule{to('A', 4, put('B', sum(1, 1, 10, 100, 1000)), put('C', sum(0, 0, 0, 0, 1), sum(0, 0, 0, 1, 0), sum(0, 0, 1, 0, 0), sum(0, 1, 0, 0, 0)))}, "A(1,2,3,4)", "B(4322)C(4,3,2,1)"}, {[]rule{to('A', 0, put('B', sum(1), sum(2), sum(3), sum(4)), put('C', sum(1000000)), put('D', sum(-1000000)))}, "A", "B(1,2,3,4)C(1000000)D(-1000000)"},
		// The successor of a bracket is itself.
		{[]rule{letters('A', "B")}, "[]", "[]"}, {[]rule{letters('A', "[B]")}, "[A]A", "[[B]][B]"}, {[]rule{letters('A', "[][]")}, "A[A]", "[][][[][]]"}, {[]rule{letters('A', "[[]]")}, "[A[]]", "[[[]][]]"},
	} {
		if w, e := rewrite.Step(c.rules, read(c.w)); !is(w, e, read(c.want)) {
			t.Error(c.rules, c.w, show(w), e)
		}
		if w, e := rewrite.Run(c.rules, read(c.w), 1); !is(w, e, read(c.want)) {
			t.Error(c.rules, c.w, show(w), e)
		}
	}
}

func TestStepOfTheEmptyWord(t *testing.T) {
	for _, rules := range goods() {
		for _, w := range [][]mod{nil, {}, make([]mod, 0, 10), plain("#[")[:0]} {
			if next, e := rewrite.Step(rules, w); !is(next, e, nil) {
				t.Error(rules, show(next), e)
			}
		}
	}
}

func TestStepWithoutRules(t *testing.T) {
	for _, w := range words() {
		for _, rules := range [][]rule{nil, {}, make([]rule, 5)[:0]} {
			if next, e := rewrite.Step(rules, w); !is(next, e, w) {
				t.Error(show(w, next), e)
			}
		}
	}
}

// Rules for all names together leave brackets as they are.
func TestStepOfAllNames(t *testing.T) {
	var rules []rule
	for _, name := range []byte(names[:40]) {
		rules = append(rules, letters(name, string(name)+"!"))
	}
	want := ""
	for i, name := range []byte(names) {
		want += string(name) + "[]"
		if i < 40 {
			want = want[:len(want)-2] + "![]"
		}
	}
	w := strings.Join(strings.Split(names, ""), "[]") + "[]"
	if next, e := rewrite.Step(rules, plain(w)); !is(next, e, plain(want)) {
		t.Error(show(next), e)
	}
	for _, name := range []byte(names) {
		if next, e := rewrite.Step([]rule{letters(name, "[F]")}, plain("["+string(name)+"]")); !is(next, e, plain("[[F]]")) {
			t.Errorf("%q %s %v", name, show(next), e)
		}
	}
}

// Values of Args at the limits, in all places of an Out.
func TestStepOfValues(t *testing.T) {
	for _, c := range []struct {
		f    form
		x, v int
		e    api.Errno
	}{
		{sum(0, 1), top, top, api.OK}, {sum(0, 1), -top, -top, api.OK}, {sum(-1, 1), top, top - 1, api.OK}, {sum(1, 1), -top, 1 - top, api.OK}, {sum(0, -1), top, -top, api.OK}, {sum(0, 1000000), 1000, top, api.OK}, {sum(0, 1000000), -1000, -top, api.OK}, {sum(1, 1), top - 1, top, api.OK}, {sum(-1, 1), 1 - top, -top, api.OK},
		{sum(1, 1), top, 0, api.ErrRange}, {sum(-1, 1), -top, 0, api.ErrRange}, {sum(1, 1000000), 1000, 0, api.ErrRange}, {sum(-1, 1000000), -1000, 0, api.ErrRange}, {sum(0, 2), top, 0, api.ErrRange}, {sum(0, -1000000), top, 0, api.ErrRange}, {sum(0, 1<<16), 1 << 16, 0, api.ErrRange},
	} {
		fine := sum(0, 0)
		zero := with('F', 0)
		for _, p := range []struct {
			out  []shape
			want []mod
		}{
			{[]shape{put('F', c.f)}, []mod{with('F', c.v)}},
			{[]shape{put('F', fine), put('F', fine, fine, fine, c.f)}, []mod{zero, with('F', 0, 0, 0, c.v)}},
			{[]shape{put('F', fine), put('['), put('F', fine, c.f, fine), put(']'), put('F', fine)}, []mod{zero, with('['), with('F', 0, c.v, 0), with(']'), zero}},
			{append(slices.Repeat([]shape{put('F', fine)}, 19), put('F', c.f)), append(slices.Repeat([]mod{zero}, 19), with('F', c.v))},
		} {
			rules := []rule{to('A', 1, p.out...), to('A', 1)}
			for _, around := range [][2]string{{"", ""}, {"BB[", "]"}, {strings.Repeat("B", 1900), ""}, {"", strings.Repeat("[]", 500)}} {
				before, behind := plain(around[0]), plain(around[1])
				want := slices.Concat(before, p.want, behind)
				if c.e != api.OK {
					want = nil
				}
				if w, e := rewrite.Step(rules, slices.Concat(before, []mod{with('A', c.x)}, behind)); !agrees(w, e, want, c.e) {
					t.Error(c, p.out, show(w), e)
				}
			}
		}
	}
}

// Only the values of Args that are put out must be in range: not those of guards, nor of other rules.
func TestStepOfOtherValues(t *testing.T) {
	great, small := sum(0, 1000000), sum(0, -1000000)
	for _, c := range []struct {
		rules []rule
		want  string
	}{
		{[]rule{when(to('A', 1, put('B')), great)}, "B"}, {[]rule{when(to('A', 1, put('B')), small)}, "A(1000000000)"}, {[]rule{when(to('A', 1, put('B', great)), small), to('A', 1, put('C'))}, "C"}, {[]rule{to('A', 1, put('C')), to('A', 1, put('B', great))}, "C"}, {[]rule{to('B', 1, put('B', great)), to('A', 1, put('C', sum(5, 0)))}, "C(5)"}, {[]rule{to('A', 2, put('B', sum(0, 1000000, 1)))}, "A(1000000000)"}, {[]rule{when(to('A', 1, put('B', sum(0, 1))), great, great, sum(1, 1))}, "B(1000000000)"},
	} {
		if w, e := rewrite.Step(c.rules, []mod{with('A', top)}); !is(w, e, read(c.want)) {
			t.Error(c.rules, show(w), e)
		}
	}
	// The first rule that fits is followed, although the second one would do.
	if w, e := rewrite.Step([]rule{to('A', 1, put('B', great)), to('A', 1)}, []mod{with('A', top)}); !none(w, e, api.ErrRange) {
		t.Error(show(w), e)
	}
}

func TestStepToMaxWord(t *testing.T) {
	twenty := letters('A', strings.Repeat("F", 20))
	for _, c := range []struct {
		rules []rule
		w     string
		want  string // "": too many
	}{
		{[]rule{twenty}, strings.Repeat("A", 100), strings.Repeat("F", 2000)}, {[]rule{twenty}, strings.Repeat("A", 100) + "F", ""}, {[]rule{twenty}, "F" + strings.Repeat("A", 100), ""}, {[]rule{twenty}, strings.Repeat("A", 99) + strings.Repeat("G", 20), strings.Repeat("F", 1980) + strings.Repeat("G", 20)}, {[]rule{twenty}, strings.Repeat("A", 99) + strings.Repeat("G", 21), ""}, {[]rule{twenty}, strings.Repeat("A", 2000), ""}, {[]rule{twenty}, strings.Repeat("A", 101), ""},
		{[]rule{letters('A', "FF")}, strings.Repeat("A", 1000), strings.Repeat("F", 2000)}, {[]rule{letters('A', "FF")}, strings.Repeat("A", 1001), ""}, {[]rule{letters('A', "FF")}, strings.Repeat("B", 1999), strings.Repeat("B", 1999)}, {[]rule{letters('A', "FF")}, strings.Repeat("B", 1998) + "A", strings.Repeat("B", 1998) + "FF"}, {[]rule{letters('A', "FF")}, strings.Repeat("B", 1999) + "A", ""}, {[]rule{letters('A', "FF")}, "A" + strings.Repeat("B", 1999), ""}, {[]rule{letters('A', "FF")}, "A" + strings.Repeat("B", 1998), "FF" + strings.Repeat("B", 1998)},
		{[]rule{letters('A', "F")}, strings.Repeat("A", 2000), strings.Repeat("F", 2000)}, {[]rule{letters('A', "[]")}, strings.Repeat("A", 1000), strings.Repeat("[]", 1000)}, {[]rule{letters('A', "[]")}, strings.Repeat("A", 1000) + "B", ""}, {[]rule{letters('A', "[F]")}, strings.Repeat("A", 666) + "BB", strings.Repeat("[F]", 666) + "BB"}, {[]rule{letters('A', "[F]")}, strings.Repeat("A", 667), ""}, {nil, strings.Repeat("[", 1000) + strings.Repeat("]", 1000), strings.Repeat("[", 1000) + strings.Repeat("]", 1000)},
		// What becomes more and what becomes less make up for each other, in whichever order.
		{[]rule{letters('A', "FF"), letters('B', "")}, strings.Repeat("A", 1000) + strings.Repeat("B", 1000), strings.Repeat("F", 2000)}, {[]rule{letters('A', "FF"), letters('B', "")}, strings.Repeat("B", 999) + strings.Repeat("A", 1001), ""}, {[]rule{letters('A', "FF"), letters('B', "")}, strings.Repeat("AB", 1000), strings.Repeat("F", 2000)}, {[]rule{letters('A', "FF"), letters('B', "")}, strings.Repeat("AB", 999) + "AF", ""},
	} {
		w, e := rewrite.Step(c.rules, plain(c.w))
		if c.want == "" && !none(w, e, api.ErrMany) || c.want != "" && !is(w, e, plain(c.want)) {
			t.Error(c.rules, brief(c.w), show(w), e)
		}
	}
}

// A value out of range comes before too many modules, in whichever order they stand.
func TestStepWithBothErrors(t *testing.T) {
	rules := []rule{letters('A', strings.Repeat("F", 20)), to('B', 1, put('B', sum(1, 1)))}
	wrong := with('B', top)
	for _, n := range []int{100, 101, 150, 1000, 1999} {
		many := plain(strings.Repeat("A", n))
		for _, at := range []int{0, 1, n / 2, n - 1, n} {
			if w, e := rewrite.Step(rules, slices.Insert(slices.Clone(many), at, wrong)); !none(w, e, api.ErrRange) {
				t.Error(n, at, show(w), e)
			}
		}
		if w, e := rewrite.Step(rules, append(slices.Clone(many), with('B', top-1))); !none(w, e, api.ErrMany) {
			t.Error(n, show(w), e)
		}
	}
	// Within what one module becomes.
	long := []rule{to('B', 1, append(bare(strings.Repeat("F", 19)), put('B', sum(1, 1)))...)}
	if w, e := rewrite.Step(long, append(plain(strings.Repeat("F", 1999)), wrong)); !none(w, e, api.ErrRange) {
		t.Error(show(w), e)
	}
	if w, e := rewrite.Step(long, append(plain(strings.Repeat("F", 1981)), wrong)); !none(w, e, api.ErrRange) {
		t.Error(show(w), e)
	}
	if w, e := rewrite.Step(long, append(plain(strings.Repeat("F", 1981)), with('B', top-1))); !none(w, e, api.ErrMany) {
		t.Error(show(w), e)
	}
	if w, e := rewrite.Step(long, append([]mod{wrong}, plain(strings.Repeat("F", 1999))...)); !none(w, e, api.ErrRange) {
		t.Error(show(w), e)
	}
}

func TestStepOfWrongWords(t *testing.T) {
	for _, c := range wrongWords() {
		for _, rules := range [][]rule{nil, tree(), {letters('A', "")}, {letters('A', "AA")}, {to('A', 1, put('A', sum(0, 1000000)))}} {
			if w, e := rewrite.Step(rules, c.w); !none(w, e, c.e) {
				t.Error(show(c.w, w), e)
			}
		}
	}
}

func TestStepReturnsTheErrorOfCheckFirst(t *testing.T) {
	for _, c := range wrongs() {
		if w, e := rewrite.Step(c.rules, read("A[A(1)]")); !none(w, e, c.e) {
			t.Error(c.why, show(w), e)
		}
	}
	for _, c := range fewWrongs() {
		if w, e := rewrite.Step(c.rules, nil); !none(w, e, c.e) {
			t.Error(c.why, show(w), e)
		}
		for _, d := range wrongWords() {
			if w, e := rewrite.Step(c.rules, d.w); !none(w, e, c.e) {
				t.Error(c.why, show(d.w, w), e)
			}
		}
	}
}

func TestStepOfManyWords(t *testing.T) {
	r := rand.New(rand.NewSource(72))
	counts := map[api.Errno]int{}
	for range 3000 {
		rules, w := someRules(r), someWord(r, 1+r.Intn(30))
		next, e := rewrite.Step(rules, w)
		want, wantError := stepped(rules, w)
		if !agrees(next, e, want, wantError) {
			t.Fatal(rules, show(w, next, want), e, wantError)
		}
		counts[e]++
	}
	for range 200 {
		rules, w := livelyRules(r), someWord(r, 800+r.Intn(1200))
		next, e := rewrite.Step(rules, w)
		want, wantError := stepped(rules, w)
		if !agrees(next, e, want, wantError) {
			t.Fatal(rules, show(w, next, want), e, wantError)
		}
		counts[e]++
	}
	if counts[api.OK] < 1000 || counts[api.ErrRange] < 100 || counts[api.ErrMany] < 10 {
		t.Error(counts)
	}
}

func TestStepOfGoodRulesAndWords(t *testing.T) {
	all := words()
	for _, rules := range goods() {
		for _, w := range all {
			next, e := rewrite.Step(rules, w)
			if want, wantError := stepped(rules, w); !agrees(next, e, want, wantError) {
				t.Error(rules, show(w, next), e)
			}
		}
	}
}
