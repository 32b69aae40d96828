package word_test

import (
	"testing"

	"gambrel/api"
	"gambrel/word"
)

func TestParseOfTextIsTheWord(t *testing.T) {
	for _, w := range good() {
		text, e := word.Text(w)
		back, f := word.Parse(text)
		if e != api.OK || f != api.OK || !word.Same(back, w) || !identical(back, w) {
			t.Error(show(w, back), e, f)
		}
	}
}

func TestTextOfParseIsTheString(t *testing.T) {
	for _, s := range bracketed() {
		w, e := word.Parse(s)
		if !matching(s) {
			if !none(w, e, api.ErrForm) {
				t.Error(s, show(w), e)
			}
			continue
		}
		if text, f := word.Text(w); e != api.OK || f != api.OK || text != s {
			t.Error(s, text, e, f)
		}
	}
}

func TestBracketsBelongToEachOther(t *testing.T) {
	pairs := 0
	for _, w := range good() {
		for i, m := range w {
			other, e := word.Close(w, i)
			if m.Name != '[' && m.Name != ']' {
				if other != 0 || e != api.ErrArg {
					t.Error(show(w), i, other, e)
				}
				continue
			}
			back, f := word.Close(w, other)
			if e != api.OK || f != api.OK || back != i || w[other].Name == m.Name {
				t.Fatal(show(w), i, other, back, e, f)
			}
			if between := w[min(i, other)+1 : max(i, other)]; word.Check(between) != api.OK {
				t.Error(show(w, between), i, other)
			}
			pairs++
		}
	}
	if pairs < 5000 {
		t.Error(pairs)
	}
}

func TestTrunksDepthsAndCountsOfJointWords(t *testing.T) {
	for _, a := range good() {
		for _, b := range good() {
			if len(a)+len(b) > api.MaxWord {
				continue
			}
			joint, e := word.Join(a, b)
			trunk, f := word.Strip(joint)
			first, _ := word.Strip(a)
			second, _ := word.Strip(b)
			trunks, g := word.Join(first, second)
			if e != api.OK || f != api.OK || g != api.OK || !word.Same(trunk, trunks) {
				t.Error(show(a, b, trunk, trunks), e, f, g)
			}
			depth, e := word.Depth(joint)
			one, f := word.Depth(a)
			two, g := word.Depth(b)
			if e != api.OK || f != api.OK || g != api.OK || depth != max(one, two) {
				t.Error(show(a, b), depth, one, two, e, f, g)
			}
			for _, name := range []byte("FG+[]#") {
				if word.Count(joint, name) != word.Count(a, name)+word.Count(b, name) {
					t.Errorf("%s %q", show(a, b), name)
				}
			}
		}
	}
}

func TestTrunkHasTheDepthZero(t *testing.T) {
	for _, w := range good() {
		trunk, e := word.Strip(w)
		depth, f := word.Depth(trunk)
		again, g := word.Strip(trunk)
		if depth != 0 || e != api.OK || f != api.OK || !is(again, g, trunk) {
			t.Error(show(w, trunk, again), depth, e, f, g)
		}
		if word.Count(trunk, '[')+word.Count(trunk, ']') != 0 {
			t.Error(show(w, trunk))
		}
	}
}
