package word_test

import (
	"fmt"
	"math"
	"slices"
	"strings"
	"testing"

	"gambrel/api"
	"gambrel/word"
)

// All words of good are different.
func TestSameOfAllPairs(t *testing.T) {
	words := good()
	for i, a := range words {
		for j, b := range words {
			if word.Same(a, b) != (i == j) {
				t.Error(show(a, b))
			}
		}
		for _, c := range fewWrongs() {
			if word.Same(a, c.w) || word.Same(c.w, a) {
				t.Error(show(a, c.w))
			}
		}
	}
	for i, c := range wrongs() {
		if !word.Same(c.w, slices.Clone(c.w)) || i%20 == 0 && word.Same(c.w, append(slices.Clone(c.w), with('F'))) {
			t.Error(show(c.w))
		}
	}
}

// Each pair differs in one place, whether the words are valid or not.
func TestSameOfWordsThatDifferInOnePlace(t *testing.T) {
	for _, m := range []mod{{}, with('F'), with('F', 0), with('F', 1, 2, 3, 4), with('['), with('[', 1), with(0xff, math.MinInt), with('#', 1, 2, 3, 4, 5, 6, 7)} {
		changed := []mod{with(m.Name+1, m.Args...), with(m.Name+128, m.Args...), with(m.Name, append(slices.Clone(m.Args), 0)...)}
		for at := range m.Args {
			for _, by := range []int{1, -1, 1 << 8, 1 << 32, 1 << 62, math.MinInt} {
				n := with(m.Name, slices.Clone(m.Args)...)
				n.Args[at] += by
				changed = append(changed, n)
			}
			changed = append(changed, with(m.Name, slices.Delete(slices.Clone(m.Args), at, at+1)...))
		}
		if len(m.Args) > 1 {
			n := with(m.Name, slices.Clone(m.Args)...)
			n.Args[0], n.Args[1] = n.Args[1], n.Args[0]
			changed = append(changed, n)
		}
		for _, n := range changed {
			for _, c := range [][2][]mod{
				{{m}, {n}}, {{with('G'), m}, {with('G'), n}}, {{m, with('G', 1)}, {n, with('G', 1)}}, {{m, m, m}, {m, n, m}}, {{m, n}, {n, m}},
				{append(times(plain("F"), 5000), m), append(times(plain("F"), 5000), n)},
			} {
				if word.Same(c[0], c[1]) || word.Same(c[1], c[0]) || !word.Same(c[0], slices.Clone(c[0])) {
					t.Error(show(c[0], c[1]))
				}
			}
		}
	}
}

func TestSameOfWordsOfOtherLengths(t *testing.T) {
	for _, w := range [][]mod{nil, plain("F"), plain("F[F]"), plain("]"), {with('#', 1, 2, 3, 4, 5)}, make([]mod, 3000)} {
		for _, m := range []mod{{}, with('F'), with('F', 1), with(']')} {
			for _, longer := range [][]mod{append(slices.Clone(w), m), append([]mod{m}, w...), append(slices.Clone(w), m, m)} {
				if word.Same(w, longer) || word.Same(longer, w) {
					t.Error(show(w, longer))
				}
			}
		}
	}
}

func TestNilAndEmptyAreTheSame(t *testing.T) {
	empty := make([]int, 0, 5)
	for _, name := range []byte("F[]#\x00\xff") {
		a, b := []mod{{Name: name}}, []mod{{Name: name, Args: empty}}
		if !word.Same(a, b) || !word.Same(b, a) || !word.Same(append(a, b...), append(b, a...)) {
			t.Error(show(a, b))
		}
		for _, args := range [][]int{{0}, {1, 2}} {
			c := []mod{{Name: name, Args: args}}
			if word.Same(a, c) || word.Same(b, c) || word.Same(c, a) || word.Same(c, b) {
				t.Error(show(a, b, c))
			}
		}
	}
	if !word.Same(nil, []mod{}) || !word.Same([]mod{}, nil) || !word.Same(nil, nil) || !word.Same(make([]mod, 0, 3), plain("FFF")[3:]) {
		t.Error("empty words")
	}
	if word.Same(nil, []mod{{}}) || word.Same([]mod{{}}, nil) {
		t.Error("an empty word and another one")
	}
}

// What is behind a word, or behind Args, is no part of them.
func TestSameLooksAtNothingBehind(t *testing.T) {
	a, b := plain("FGH"), plain("FXY")
	if !word.Same(a[:1], b[:1]) || word.Same(a[:2], b[:2]) {
		t.Error("behind a word")
	}
	args := []int{1, 2, 3}
	if !word.Same([]mod{with('F', args[:2]...)}, []mod{with('F', 1, 2)}) || !word.Same([]mod{with('F', args[:0]...)}, plain("F")) {
		t.Error("behind Args")
	}
}

func TestTwin(t *testing.T) {
	words := append(good(), nil, []mod{}, []mod{{Name: 'F', Args: []int{}}, {Name: '['}}, []mod{with('F', math.MinInt, math.MaxInt, 0, 0, 0, 0)}, []mod{with(0, make([]int, 100000)...)})
	for _, c := range wrongs() {
		words = append(words, c.w)
	}
	for _, w := range words {
		twin := word.Twin(w)
		if !identical(twin, w) || !word.Same(twin, w) {
			t.Error(show(w, twin))
		}
	}
}

func TestTwinOfNilAndEmptyArgs(t *testing.T) {
	w := []mod{{Name: 'F'}, {Name: 'F', Args: []int{}}, {Name: 'G', Args: []int{1}}, {Name: ']', Args: []int{7}[:0]}}
	twin := word.Twin(w)
	if !identical(twin, w) || !word.Same(twin, plainWith("FFG]", 2, 1)) {
		t.Error(show(w, twin), fmt.Sprint(twin))
	}
	for i := range twin {
		twin[i].Args = append(twin[i].Args, 5)
	}
	if len(w[0].Args)+len(w[1].Args)+len(w[3].Args) != 0 || w[3].Args[:1][0] != 7 {
		t.Error(show(w, twin))
	}
}

// plainWith returns a word of modules without Args, but one with an Arg.
func plainWith(s string, at, arg int) []mod {
	w := plain(s)
	w[at].Args = []int{arg}
	return w
}

func TestTwinAndSameOfLargeWords(t *testing.T) {
	a, b := times([]mod{with('F', 1, 2), with('#')}, 1<<19), times([]mod{with('F', 1, 2), with('#')}, 1<<19)
	if !word.Same(a, b) || !word.Same(word.Twin(a), b) {
		t.Error("large words")
	}
	b[len(b)-1].Name = '$'
	if word.Same(a, b) || word.Same(word.Twin(b), a) || word.Count(b, '#') != 1<<19-1 {
		t.Error("large words that differ in the last module")
	}
	if word.Check(plain(strings.Repeat("F", 1<<20))) != api.ErrMany {
		t.Error("a large word")
	}
}
