package chance_test

import (
	"math/rand"
	"slices"
	"strings"
	"testing"

	"gambrel/api"
	"gambrel/chance"
)

func TestCheckOfValidRules(t *testing.T) {
	r := rand.New(rand.NewSource(92))
	lists := goods()
	for range 200 {
		lists = append(lists, someRules(r), livelyRules(r))
	}
	for _, rules := range lists {
		if e := chance.Check(rules); e != api.OK {
			t.Error(brief(rules), e)
		}
	}
}

func TestCheckOfNoRules(t *testing.T) {
	for _, rules := range [][]rule{nil, {}, make([]rule, 0, 10), []rule{{}}[:0], make([]rule, 41)[41:]} {
		if e := chance.Check(rules); e != api.OK {
			t.Error(rules, e)
		}
	}
	// What stands in the memory behind a slice is no part of it.
	r := rule{Name: 'A', Weight: 1, Guards: make([]form, 5)[:0], Out: make([]shape, 21)[:0]}
	if e := chance.Check(append(make([]rule, 0, 50), r, rule{Name: '#'})[:1]); e != api.OK {
		t.Error(e)
	}
}

// All weights around the limits, in the only rule, and before and behind others.
func TestCheckOfWeights(t *testing.T) {
	weights := slices.Concat(wrongWeights(), []int{api.MaxLot, api.MaxLot - 1, api.MaxLot / 2, 255, 256, 257, 65536, 1 << 19})
	for n := -50; n <= 50; n++ {
		weights = append(weights, n, api.MaxLot+n)
	}
	for _, weight := range weights {
		want := api.ErrBad
		if weight >= 1 && weight <= 1000000 {
			want = api.OK
		}
		for _, r := range []rule{letters('A', "F"), letters('A', ""), when(to('+', 2, put('F', sum(1, 2, 3))), sum(0, 1, 1))} {
			for _, rules := range around(weigh(weight, r)) {
				if e := chance.Check(rules); e != want {
					t.Error(weight, brief(rules), e)
				}
			}
		}
	}
	// There is no limit of all weights together.
	if e := chance.Check(slices.Repeat([]rule{weigh(api.MaxLot, letters('A', "F"))}, 40)); e != api.OK {
		t.Error(e)
	}
}

// around returns lists of rules that have r.
func around(r rule) [][]rule {
	return [][]rule{{r}, append(bush(), r), append([]rule{r}, bush()...), slices.Concat(slices.Repeat(bush()[:2], 19), []rule{letters('C', "A"), r})}
}

func TestCheckOfWrongRules(t *testing.T) {
	for k, r := range wrongRules() {
		lists := around(r)
		if k%7 != 0 {
			lists = lists[:2]
		}
		for _, rules := range lists {
			if e := chance.Check(rules); e != api.ErrBad {
				t.Error(brief(rules), e)
			}
		}
	}
	// All bytes as Left and Right.
	for b := range 256 {
		want := api.ErrBad
		if b == 0 {
			want = api.OK
		}
		for _, r := range []rule{beside(byte(b), letters('A', "F"), 0), beside(0, letters('A', "F"), byte(b)), beside(byte(b), letters('A', "F"), byte(b))} {
			if e := chance.Check([]rule{letters('B', "A"), r}); e != want {
				t.Error(b, r, e)
			}
		}
	}
}

// Too many of something comes before all else that is wrong.
func TestCheckOfTooMany(t *testing.T) {
	bad := []rule{letters('#', "F"), letters('A', "["), to('A', -1), to('A', 5), {Name: 'A'}, weigh(-1, letters('A', "F")), weigh(api.MaxLot+1, letters('A', "F")), beside('A', letters('A', "F"), 0), beside(0, letters('A', "F"), '#'), {}}
	for _, r := range crowdedRules() {
		lists := around(r)
		for _, b := range bad {
			lists = append(lists, []rule{b, r}, []rule{r, b}, []rule{b, r, b})
		}
		for _, rules := range lists {
			if e := chance.Check(rules); e != api.ErrMany {
				t.Error(brief(rules), e)
			}
		}
	}
	for _, rules := range manyRules() {
		if e := chance.Check(rules); e != api.ErrMany {
			t.Error(len(rules), brief(rules), e)
		}
	}
}

func TestCheckOfLimits(t *testing.T) {
	for n := range 60 {
		want := func(most int) api.Errno {
			if n > most {
				return api.ErrMany
			}
			return api.OK
		}
		if e := chance.Check(slices.Repeat([]rule{letters('A', "F")}, n)); e != want(40) {
			t.Error("rules", n, e)
		}
		if e := chance.Check([]rule{letters('B', "F"), when(letters('A', "F"), make([]form, n)...)}); e != want(4) {
			t.Error("guards", n, e)
		}
		if e := chance.Check([]rule{letters('B', "F"), letters('A', strings.Repeat("F", n))}); e != want(20) {
			t.Error("shapes", n, e)
		}
	}
	// The limits of guards and shapes are those of one rule, not of all together.
	if e := chance.Check(slices.Repeat([]rule{when(letters('A', strings.Repeat("F", 20)), make([]form, 4)...)}, 40)); e != api.OK {
		t.Error(e)
	}
}

func TestCheckOfFewWrongs(t *testing.T) {
	for i, c := range fewWrongs() {
		if e := chance.Check(c.rules); e != c.e {
			t.Error(i, brief(c.rules), e)
		}
	}
}
