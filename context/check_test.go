package context_test

import (
	"math/rand"
	"slices"
	"strings"
	"testing"

	"gambrel/api"
	"gambrel/context"
)

func TestCheckOfValidRules(t *testing.T) {
	r := rand.New(rand.NewSource(82))
	lists := goods()
	for range 100 {
		lists = append(lists, someRules(r), livelyRules(r))
	}
	for _, rules := range lists {
		for _, ignore := range []string{"", "+", "A", "ABC+-", names[:20], names[30:50]} {
			if e := context.Check(rules, ignore); e != api.OK {
				t.Error(brief(rules), ignore, e)
			}
		}
	}
}

func TestCheckOfNoRules(t *testing.T) {
	for _, rules := range [][]rule{nil, {}, make([]rule, 0, 10), []rule{{}}[:0], make([]rule, 41)[41:]} {
		if e := context.Check(rules, ""); e != api.OK {
			t.Error(rules, e)
		}
		if e := context.Check(rules, "[]"); e != api.ErrBad {
			t.Error(rules, e)
		}
	}
	// What stands in the memory behind a slice is no part of it.
	r := rule{Name: 'A', Left: 'B', Guards: make([]form, 5)[:0], Out: make([]shape, 21)[:0]}
	if e := context.Check(append(make([]rule, 0, 50), r, rule{Name: '#'})[:1], ""); e != api.OK {
		t.Error(e)
	}
}

func TestCheckOfWhatIsIgnored(t *testing.T) {
	for _, rules := range goods() {
		for _, ignore := range goodIgnores() {
			if e := context.Check(rules, ignore); e != api.OK {
				t.Errorf("%s %q %v", brief(rules), ignore, e)
			}
		}
		for _, ignore := range wrongIgnores() {
			if e := context.Check(rules, ignore); e != api.ErrBad {
				t.Errorf("%s %.50q %v", brief(rules), ignore, e)
			}
		}
	}
	for n := range len(names) + 1 {
		want := api.OK
		if n > 20 {
			want = api.ErrBad
		}
		if e := context.Check(signal(), names[:n]); e != want {
			t.Error(n, e)
		}
		if e := context.Check(nil, names[len(names)-n:]); e != want {
			t.Error(n, e)
		}
	}
	// All strings of two bytes.
	for a := range 256 {
		for b := range 256 {
			want := api.ErrBad
			if a != b && strings.IndexByte(names, byte(a)) >= 0 && strings.IndexByte(names, byte(b)) >= 0 {
				want = api.OK
			}
			if e := context.Check(nil, string([]byte{byte(a), byte(b)})); e != want {
				t.Error(a, b, e)
			}
		}
	}
	// A name twice, at all places.
	for i := range 20 {
		for k := range 20 {
			twice := []byte(names[:20])
			twice[i] = twice[k]
			want := api.ErrBad
			if i == k {
				want = api.OK
			}
			if e := context.Check(nil, string(twice)); e != want {
				t.Errorf("%q %v", twice, e)
			}
		}
	}
}

// All bytes as Left and Right, in the only rule and behind others.
func TestCheckOfNeighbours(t *testing.T) {
	for b := range 256 {
		name := byte(b)
		want := api.ErrBad
		if name == 0 || strings.IndexByte(names, name) >= 0 {
			want = api.OK
		}
		for _, r := range []rule{letters('A', "F"), letters('A', ""), when(to('+', 2, put('F', sum(1, 2, 3))), sum(0, 1, 1))} {
			for _, c := range []rule{beside(name, r, 0), beside(0, r, name), beside(name, r, name), beside('A', r, name), beside(name, r, '!')} {
				for _, rules := range [][]rule{{c}, {r, c}, {c, r}, append(signal(), c), slices.Concat(slices.Repeat([]rule{r}, 39), []rule{c})} {
					if e := context.Check(rules, "+-"); e != want {
						t.Error(b, rules, e)
					}
				}
			}
		}
	}
}

// around returns lists of rules that have r.
func around(r rule) [][]rule {
	return [][]rule{{r}, append(signal(), r), append([]rule{r}, signal()...), slices.Concat(slices.Repeat(signal(), 19), []rule{letters('C', "A"), r})}
}

func TestCheckOfWrongRules(t *testing.T) {
	for k, r := range wrongRules() {
		lists := around(r)
		if k%7 != 0 {
			lists = lists[:2]
		}
		for _, rules := range lists {
			for _, ignore := range []string{"", "+", "[", "++"} {
				if e := context.Check(rules, ignore); e != api.ErrBad {
					t.Error(brief(rules), ignore, e)
				}
			}
		}
	}
	// Also where another rule always comes before it.
	for _, r := range []rule{letters('A', "["), beside('[', letters('A', "F"), 0), when(letters('A', "F"), sum(0, 0))} {
		if e := context.Check([]rule{letters('A', "F"), r}, ""); e != api.ErrBad {
			t.Error(r, e)
		}
	}
}

// Too many of something comes before all else that is wrong.
func TestCheckOfTooMany(t *testing.T) {
	bad := []rule{letters('#', "F"), letters('A', "["), to('A', -1), to('A', 5), {Name: 'A', Weight: 1}, beside('[', letters('A', "F"), 0), beside(0, letters('A', "F"), '#'), {}}
	for _, r := range crowdedRules() {
		lists := around(r)
		for _, b := range bad {
			lists = append(lists, []rule{b, r}, []rule{r, b}, []rule{b, r, b})
		}
		for _, rules := range lists {
			for _, ignore := range []string{"", "+", "[", "++", names[:21]} {
				if e := context.Check(rules, ignore); e != api.ErrMany {
					t.Error(brief(rules), ignore, e)
				}
			}
		}
	}
	for _, rules := range manyRules() {
		for _, ignore := range []string{"", "+", "]", "++", names[:21]} {
			if e := context.Check(rules, ignore); e != api.ErrMany {
				t.Error(len(rules), brief(rules), ignore, e)
			}
		}
	}
}

func TestCheckOfLimits(t *testing.T) {
	for n := range 60 {
		want := func(most int) api.Errno {
			if n > most {
				return api.ErrMany
			}
			return api.OK
		}
		if e := context.Check(slices.Repeat([]rule{beside('A', letters('A', "F"), 'B')}, n), ""); e != want(40) {
			t.Error("rules", n, e)
		}
		if e := context.Check([]rule{letters('B', "F"), when(beside('A', letters('A', "F"), 0), make([]form, n)...)}, ""); e != want(4) {
			t.Error("guards", n, e)
		}
		if e := context.Check([]rule{letters('B', "F"), beside(0, letters('A', strings.Repeat("F", n)), 'A')}, ""); e != want(20) {
			t.Error("shapes", n, e)
		}
	}
	// The limits of guards and shapes are those of one rule, not of all together.
	if e := context.Check(slices.Repeat([]rule{when(letters('A', strings.Repeat("F", 20)), make([]form, 4)...)}, 40), names[:20]); e != api.OK {
		t.Error(e)
	}
}

func TestCheckOfFewWrongs(t *testing.T) {
	for i, c := range fewWrongs() {
		if e := context.Check(c.rules, c.ignore); e != c.e {
			t.Error(i, brief(c.rules), c.ignore, e)
		}
	}
}
