package word_test

import (
	"math"
	"strings"
	"testing"

	"gambrel/api"
	"gambrel/word"
)

// partner returns the index of the bracket that belongs to the one with the index i: the nearest one with which all brackets from one to the other match. It is -1 for other bytes.
func partner(s string, i int) int {
	switch s[i] {
	case '[':
		for j := i + 1; j < len(s); j++ {
			if s[j] == ']' && matching(s[i:j+1]) {
				return j
			}
		}
	case ']':
		for j := i - 1; j >= 0; j-- {
			if s[j] == '[' && matching(s[j:i+1]) {
				return j
			}
		}
	}
	return -1
}

func TestClose(t *testing.T) {
	for _, c := range []struct {
		s        string
		i, other int
	}{
		{"F[+F]F", 1, 4}, {"F[+F]F", 4, 1}, {"[]", 0, 1}, {"[]", 1, 0}, {"[[]]", 0, 3}, {"[[]]", 1, 2}, {"[[]]", 2, 1}, {"[[]]", 3, 0}, {"[][]", 0, 1}, {"[][]", 2, 3}, {"[][]", 3, 2}, {"[[][]]", 0, 5}, {"[[][]]", 4, 3},
		{"A[B][C[D][E]]F[G]", 4, 12}, {"A[B][C[D][E]]F[G]", 12, 4}, {"A[B][C[D][E]]F[G]", 9, 11}, {"A[B][C[D][E]]F[G]", 3, 1}, {"A[B][C[D][E]]F[G]", 14, 16},
		{strings.Repeat("[", 1000) + strings.Repeat("]", 1000), 0, 1999}, {strings.Repeat("[", 1000) + strings.Repeat("]", 1000), 999, 1000}, {strings.Repeat("[", 1000) + strings.Repeat("]", 1000), 1744, 255}, {strings.Repeat("[]", 1000), 1998, 1999}, {strings.Repeat("[]", 1000), 1001, 1000}, {"[" + strings.Repeat("F", 1998) + "]", 1999, 0}, {"[" + strings.Repeat("[]", 999) + "]", 0, 1999},
	} {
		if other, e := word.Close(plain(c.s), c.i); other != c.other || e != api.OK {
			t.Errorf("%.50s %d: %d %v", c.s, c.i, other, e)
		}
	}
}

func TestCloseOfModulesWithArgs(t *testing.T) {
	w := []mod{with('F', 1, -2), with('['), with('+', '['), with('F', ']'), with(']'), with('F')}
	for i, want := range []int{-1, 4, -1, -1, 1, -1} {
		other, e := word.Close(w, i)
		if want < 0 && (other != 0 || e != api.ErrArg) || want >= 0 && (other != want || e != api.OK) {
			t.Error(i, other, e)
		}
	}
}

// All indices of all short words, and those beside them.
func TestCloseOfAllBrackets(t *testing.T) {
	for _, s := range bracketed() {
		if !matching(s) {
			continue
		}
		for i := range s {
			other, e := word.Close(plain(s), i)
			if want := partner(s, i); want < 0 && (other != 0 || e != api.ErrArg) || want >= 0 && (other != want || e != api.OK) {
				t.Error(s, i, other, e)
			}
		}
		for _, i := range []int{-1, len(s), len(s) + 1} {
			if other, e := word.Close(plain(s), i); other != 0 || e != api.ErrArg {
				t.Error(s, i, other, e)
			}
		}
	}
}

func TestCloseOfOtherIndices(t *testing.T) {
	for _, w := range good() {
		for _, i := range []int{-1, -2, -len(w), len(w), len(w) + 1, 2 * len(w), api.MaxWord, api.MaxWord + 1, 1 << 32, 1<<32 + 1, -1 << 32, math.MinInt, math.MaxInt} {
			if i >= 0 && i < len(w) || i == 0 && len(w) > 0 {
				continue
			}
			if other, e := word.Close(w, i); other != 0 || e != api.ErrArg {
				t.Error(show(w), i, other, e)
			}
		}
		for i, m := range w {
			if m.Name == '[' || m.Name == ']' {
				continue
			}
			if other, e := word.Close(w, i); other != 0 || e != api.ErrArg {
				t.Error(show(w), i, other, e)
			}
			if i > 40 {
				break
			}
		}
	}
	// Behind the end of a slice, and within its memory.
	whole := plain("[][]")
	if other, e := word.Close(whole[:2], 2); other != 0 || e != api.ErrArg {
		t.Error(other, e)
	}
}

func TestDepth(t *testing.T) {
	for _, c := range []struct {
		s    string
		want int
	}{
		{"", 0}, {"F", 0}, {"F+F-", 0}, {"[]", 1}, {"F[+F]F", 1}, {"[][]", 1}, {"[[]]", 2}, {"[[]][]", 2}, {"[][[]]", 2}, {"[[][]]", 2}, {"[][[[]]][]", 3}, {"[F[F]F[F[F]]]", 3},
		{strings.Repeat("F", 2000), 0}, {strings.Repeat("[]", 1000), 1}, {strings.Repeat("[[]]", 500), 2}, {strings.Repeat("[", 1000) + strings.Repeat("]", 1000), 1000}, {strings.Repeat("[", 255) + strings.Repeat("]", 255), 255}, {strings.Repeat("[", 256) + strings.Repeat("]", 256) + "[]", 256},
	} {
		if depth, e := word.Depth(plain(c.s)); depth != c.want || e != api.OK {
			t.Errorf("%.50s %d %v", c.s, depth, e)
		}
	}
}

func TestStrip(t *testing.T) {
	for _, c := range []struct{ s, want string }{
		{"", ""}, {"F", "F"}, {"F+F-", "F+F-"}, {"[]", ""}, {"F[+F]F", "FF"}, {"[F]", ""}, {"[][]", ""}, {"A[]B", "AB"}, {"[A]B", "B"}, {"A[B]", "A"}, {"[[]]", ""}, {"A[B[C]D]E", "AE"}, {"A[B[C]]D[E]F", "ADF"}, {"[[A]B]C", "C"}, {"A[B[C]D[E]F]G", "AG"},
		{strings.Repeat("F", 2000), strings.Repeat("F", 2000)}, {strings.Repeat("[]", 1000), ""}, {strings.Repeat("[F]G", 500), strings.Repeat("G", 500)}, {strings.Repeat("[", 1000) + strings.Repeat("]", 1000), ""}, {strings.Repeat("[", 999) + "F" + strings.Repeat("]", 999) + "G", "G"},
	} {
		if trunk, e := word.Strip(plain(c.s)); !is(trunk, e, plain(c.want)) {
			t.Errorf("%.50s %s %v", c.s, show(trunk), e)
		}
	}
	w := []mod{with('F', 1, -2), with('['), with('+', 3), with(']'), with('-', 4, 5, 6, 7), with('['), with(']'), with('G', 0)}
	if trunk, e := word.Strip(w); !is(trunk, e, []mod{w[0], w[4], w[7]}) {
		t.Error(show(trunk), e)
	}
	if trunk, e := word.Strip(times([]mod{wide()}, 2000)); !is(trunk, e, times([]mod{wide()}, 2000)) {
		t.Error(show(trunk), e)
	}
}

func TestDepthAndStripOfAllBrackets(t *testing.T) {
	for _, s := range bracketed() {
		if !matching(s) {
			continue
		}
		rest, rounds := trunkOf(s)
		if depth, e := word.Depth(plain(s)); depth != rounds || e != api.OK {
			t.Error(s, depth, e)
		}
		if trunk, e := word.Strip(plain(s)); !is(trunk, e, plain(rest)) {
			t.Error(s, show(trunk), e)
		}
	}
}

func TestDepthAndStripOfAllWords(t *testing.T) {
	for _, w := range good() {
		rest, rounds := trunkOf(written(w))
		if depth, e := word.Depth(w); depth != rounds || e != api.OK {
			t.Error(show(w), depth, e)
		}
		if trunk, e := word.Strip(w); written(trunk) != rest || e != api.OK {
			t.Error(show(w, trunk), e)
		}
	}
}
