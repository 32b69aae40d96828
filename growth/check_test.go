package growth_test

import (
	"math/rand"
	"slices"
	"strings"
	"testing"

	"gambrel/api"
	"gambrel/growth"
)

// holds checks that a system has no error, and its matrix.
func holds(t *testing.T, rules []rule, names string) {
	t.Helper()
	if e := growth.Check(rules, names); e != api.OK {
		t.Errorf("%s %q %v", brief(rules), names, e)
	}
	if m, e := growth.Matrix(rules, names); !agree(m, e, drawn(rules, names), api.OK) {
		t.Errorf("%s %q %s %v", brief(rules), names, brief(m), e)
	}
	if counts, e := growth.Counts(rules, names, nil, 0); !agrees(counts, e, make([]int64, len(names)), api.OK) {
		t.Errorf("%s %q %v %v", brief(rules), names, counts, e)
	}
	if length, e := growth.Length(rules, names, nil, 0); length != 0 || e != api.OK {
		t.Errorf("%s %q %v %v", brief(rules), names, length, e)
	}
}

// refused checks that all functions return the error of a system, before those of the word and of the number of steps, and no result.
func refused(t *testing.T, rules []rule, names string, want api.Errno) {
	t.Helper()
	if e := growth.Check(rules, names); e != want {
		t.Errorf("%s %.30q %v %v", brief(rules), names, e, want)
	}
	if m, e := growth.Matrix(rules, names); len(m) > 0 || e != want {
		t.Errorf("%s %.30q %s %v %v", brief(rules), names, brief(m), e, want)
	}
	for _, c := range []struct {
		w []mod
		n int
	}{{nil, 0}, {plain("A"), 1}, {plain("["), 1}, {plain("#"), -1}, {make([]mod, 2001), 61}, {[]mod{with('A', 1)}, 0}, {nil, -1}} {
		if counts, e := growth.Counts(rules, names, c.w, c.n); len(counts) > 0 || e != want {
			t.Errorf("%s %.30q %v %v %v %v", brief(rules), names, brief(c.w), c.n, e, want)
		}
		if length, e := growth.Length(rules, names, c.w, c.n); length != 0 || e != want {
			t.Errorf("%s %.30q %v %v %v %v", brief(rules), names, brief(c.w), c.n, e, want)
		}
	}
}

func TestCheckOfValidSystems(t *testing.T) {
	for _, s := range goods() {
		holds(t, s.rules, s.names)
	}
	// What stands in the memory behind a slice is no part of it.
	r := rule{Name: 'A', Guards: make([]form, 5)[:0], Out: make([]shape, 21)[:0]}
	holds(t, append(make([]rule, 0, 50), r, rule{Name: '#'})[:1], "A")
	holds(t, make([]rule, 41)[41:], "")
	holds(t, []rule{to('A', 0, shape{Name: 'B', Args: []form{{}}[:0]}, shape{Name: '[', Args: []form{}}, shape{Name: ']'})}, "AB")
}

func TestCheckOfWrongSystems(t *testing.T) {
	for _, s := range append(wrongs(), fewWrongs()...) {
		refused(t, s.rules, s.names, s.e)
	}
}

func TestCheckOfNumbersOfNames(t *testing.T) {
	for n := range len(letters) {
		for _, names := range []string{letters[:n], letters[len(letters)-n:]} {
			if n <= 12 {
				holds(t, nil, names)
				holds(t, []rule{}, names)
			} else {
				refused(t, nil, names, api.ErrMany)
				refused(t, system("A=A"), names, api.ErrMany)
			}
		}
	}
	for b := range 256 {
		name := string([]byte{byte(b)})
		for n := range 30 {
			want := api.OK
			switch {
			case n > 12:
				want = api.ErrMany
			case n > 1, n == 1 && !strings.Contains(letters, name):
				want = api.ErrBad
			}
			if e := growth.Check(nil, strings.Repeat(name, n)); e != want {
				t.Errorf("%q %d %v", name, n, e)
			}
		}
	}
}

// Each name at two places.
func TestCheckOfNamesThatOccurTwice(t *testing.T) {
	r := rand.New(rand.NewSource(108))
	for n := 2; n <= 12; n++ {
		names := shuffled(r, letters)[:n]
		holds(t, nil, names)
		for i := range n {
			for k := range n {
				b := []byte(names)
				b[k] = b[i]
				if i != k {
					refused(t, nil, string(b), api.ErrBad)
				}
			}
		}
	}
}

// All short strings of some bytes, of which only some are names.
func TestCheckOfAllShortNames(t *testing.T) {
	list := []string{""}
	for at := 0; len(list[at]) < 4; at++ {
		for _, b := range []string{"A", "a", "+", "!", "[", "]", "\x00", "#", "\xc3", "\xa9"} {
			list = append(list, list[at]+b)
		}
	}
	for _, names := range list {
		if e := growth.Check(nil, names); e != checked(nil, names) {
			t.Errorf("%q %v", names, e)
		}
	}
}

// All bytes at all places of the names.
func TestCheckOfAllBytes(t *testing.T) {
	for b := range 256 {
		for k := range 12 {
			names := []byte("mnopqrstuvwx")
			names[k] = byte(b)
			want := api.ErrBad
			if strings.Contains(letters, string(names[k:k+1])) && !twice(string(names)) {
				want = api.OK
			}
			if e := growth.Check(nil, string(names)); e != want {
				t.Errorf("%q %v", names, e)
			}
		}
	}
}

func TestCheckOfLimits(t *testing.T) {
	for n := range 60 {
		rules, shapes, guards := api.OK, api.OK, api.OK
		if n > 40 {
			rules = api.ErrMany
		}
		if n > 20 {
			shapes = api.ErrMany
		}
		// Rules with some guards are not plain.
		if n > 0 {
			guards = api.ErrBad
		}
		if n > 4 {
			guards = api.ErrMany
		}
		if e := growth.Check(slices.Repeat(system("A=B"), n), "AB"); e != rules {
			t.Error("rules", n, e)
		}
		if e := growth.Check(append(fibonacci(), from('A', strings.Repeat("B", n))), "AB"); e != shapes {
			t.Error("shapes", n, e)
		}
		if e := growth.Check(append(fibonacci(), when(from('A', "B"), make([]form, n)...)), "AB"); e != guards {
			t.Error("guards", n, e)
		}
	}
	// The limit is that of one rule, not of all together.
	holds(t, slices.Repeat(system("A="+strings.Repeat("AB", 10)), 40), "AB")
}

// Names of rules and of shapes, which are among the names or not.
func TestCheckOfAllNames(t *testing.T) {
	for b := range 256 {
		name := string([]byte{byte(b)})
		letter, given := strings.Contains(letters, name), name == "A" || name == "B"
		for _, c := range []struct {
			r     rule
			names string
			ok    bool
		}{
			{from(byte(b), ""), name, letter}, {from(byte(b), name), name, letter}, {from(byte(b), name), "AB" + name, letter && !given}, {from(byte(b), "A"), "AB", given}, {from(byte(b), "A"), "", false},
			{from('A', name), "AB", given}, {from('A', "["+name+"]"), "AB", given}, {from('A', "B"+name), "AB" + name, letter && !given}, {from('A', name), "A" + name, letter && name != "A"}, {from('A', name), name, name == "A"},
			{from('A', "["+name), "AB", name == "]"}, {from('A', name+"]"), "AB", name == "["}, {from('A', "[B"+name+"A"), "AB", name == "]"},
		} {
			want := api.ErrBad
			if c.ok {
				want = api.OK
			}
			if e := growth.Check([]rule{c.r}, c.names); e != want {
				t.Errorf("%v %q %v", c.r, c.names, e)
			}
		}
	}
}

// The error of the rules comes first, then that of too many names, and then all that makes names wrong or rules not plain.
func TestCheckOfSeveralErrors(t *testing.T) {
	names := append(longNames(), "AB", "")
	for i, s := range wrongNames() {
		if i < 40 || i%20 == 0 {
			names = append(names, s)
		}
	}
	for _, s := range names {
		for _, r := range wrongRules()[:60] {
			refused(t, []rule{r}, s, api.ErrBad)
		}
		for _, r := range crowdedRules() {
			refused(t, []rule{r}, s, api.ErrMany)
		}
		if len(s) > 300 {
			continue
		}
		refused(t, make([]rule, 41), s, api.ErrMany)
		refused(t, slices.Repeat(fibonacci(), 21), s, api.ErrMany)
	}
	curved := curvedRules()
	for i, r := range curved {
		for _, s := range longNames() {
			if len(s) < 300 {
				refused(t, []rule{r}, s, api.ErrMany)
			}
		}
		refused(t, []rule{r}, wrongNames()[i%len(wrongNames())], api.ErrBad)
		// A rule that is not valid comes before too many names, also behind one that is not plain.
		refused(t, []rule{r, {}}, dozen+"M", api.ErrBad)
		refused(t, []rule{r, from('A', strings.Repeat("A", 21))}, "A[", api.ErrMany)
	}
}

// The rules behind the first one for a name must be as they should be, too, although they do not matter.
func TestCheckOfLaterRules(t *testing.T) {
	for _, r := range slices.Concat(wrongRules(), curvedRules()) {
		if r.Name != 'A' {
			continue
		}
		refused(t, []rule{from('A', "B"), r}, "AB", api.ErrBad)
		refused(t, append(slices.Repeat(system("A=B"), 39), r), "AB", api.ErrBad)
	}
}

// Many systems of which some have an error, next to the definition.
func TestCheckOfManySystems(t *testing.T) {
	r := rand.New(rand.NewSource(109))
	faults := slices.Concat(wrongRules(), curvedRules(), crowdedRules())
	counts := map[api.Errno]int{}
	for range 5000 {
		s := someSystem(r)
		switch k := r.Intn(8); {
		case k == 0:
			s.rules = slices.Insert(s.rules, r.Intn(len(s.rules)+1), faults[r.Intn(len(faults))])
		case k == 1:
			s.names = s.names[1:]
		case k == 2:
			s.names += string([]byte{byte(r.Intn(256))})
		case k == 3:
			s.names += letters[r.Intn(len(letters)-6):][:6]
		case k == 4 && len(s.rules) > 0:
			s.rules[r.Intn(len(s.rules))].Name = letters[r.Intn(len(letters))]
		}
		want := checked(s.rules, s.names)
		if want == api.OK {
			holds(t, s.rules, s.names)
		} else {
			refused(t, s.rules, s.names, want)
		}
		counts[want]++
	}
	if counts[api.OK] < 1000 || counts[api.ErrBad] < 500 || counts[api.ErrMany] < 100 {
		t.Error(counts)
	}
}
