package growth_test

import (
	"fmt"
	"math/rand"
	"slices"
	"strings"
	"testing"

	"gambrel/api"
	"gambrel/growth"
)

// expect checks the counts after n steps, and the length, or that both have an error.
func expect(t *testing.T, rules []rule, names string, w []mod, n int, want []int64, wantError api.Errno) {
	t.Helper()
	if counts, e := growth.Counts(rules, names, w, n); !agrees(counts, e, want, wantError) {
		t.Errorf("%s %q %s %d: %v %v, not %v %v", brief(rules), names, brief(w), n, counts, e, want, wantError)
	}
	total := int64(0)
	for _, c := range want {
		total += c
	}
	if wantError == api.OK && total > most {
		total, wantError = 0, api.ErrRange
	}
	if length, e := growth.Length(rules, names, w, n); length != total || e != wantError {
		t.Errorf("%s %q %s %d: %v %v, not %v %v", brief(rules), names, brief(w), n, length, e, total, wantError)
	}
}

// times returns the word of a letter, so many times.
func times(n int, s string) []mod {
	return plain(strings.Repeat(s, n))
}

func TestCounts(t *testing.T) {
	for n, want := range [][]int64{{1, 0}, {1, 1}, {2, 1}, {3, 2}, {5, 3}, {8, 5}} {
		expect(t, fibonacci(), "AB", plain("A"), n, want, api.OK)
		expect(t, fibonacci(), "BA", plain("A"), n, []int64{want[1], want[0]}, api.OK)
	}
	expect(t, fibonacci(), "AB", plain("A"), 30, []int64{1346269, 832040}, api.OK)
	expect(t, fibonacci(), "AB", plain("A"), 60, []int64{2504730781961, 1548008755920}, api.OK)
	if length, e := growth.Length(fibonacci(), "AB", plain("A"), 30); length != 2178309 || e != api.OK {
		t.Error(length, e)
	}
	for n, want := range []int64{1, 3, 9, 27, 81, 243} {
		expect(t, system("A=A[A]A"), "A", plain("A"), n, []int64{want}, api.OK)
	}
	expect(t, system("A=A[A]A"), "A", plain("A"), 31, []int64{617673396283947}, api.OK)
	for n := 32; n <= 60; n++ {
		expect(t, system("A=A[A]A"), "A", plain("A"), n, nil, api.ErrRange)
	}
	for _, c := range []struct {
		rules, names, w string
		n               int
		want            []int64
	}{
		{"", "", "", 0, nil}, {"", "", "", 60, nil}, {"", "", "[]", 7, nil}, {"", "", "[[][]]", 60, nil}, {"", "A", "", 3, []int64{0}}, {"A=AA", "A", "", 60, []int64{0}}, {"A=AA", "A", "[[]]", 60, []int64{0}},
		{"", "AB", "AABA", 0, []int64{3, 1}}, {"", "AB", "AABA", 60, []int64{3, 1}}, {"", "BA", "A[AB]A", 1, []int64{1, 3}}, {"", "CBA", "AABA", 60, []int64{0, 1, 3}},
		{"A=", "AB", "ABA", 0, []int64{2, 1}}, {"A=", "AB", "ABA", 1, []int64{0, 1}}, {"A=", "AB", "ABA", 60, []int64{0, 1}}, {"A=[]", "A", "AA", 1, []int64{0}}, {"A=[] B=AB", "AB", "AB", 9, []int64{1, 1}},
		{"A=B", "AB", "AAB", 1, []int64{0, 3}}, {"A=B B=A", "AB", "AAB", 1, []int64{1, 2}}, {"A=B B=A", "AB", "AAB", 59, []int64{1, 2}}, {"A=B B=A", "AB", "AAB", 60, []int64{2, 1}}, {"A=B B=C C=A", "ABC", "AAB", 2, []int64{1, 0, 2}},
		{"B=AB", "AB", "B", 60, []int64{60, 1}}, {"C=BC B=AB", "ABC", "C", 60, []int64{1770, 60, 1}}, {"A=A+A-", "A+-", "A", 10, []int64{1024, 1023, 1023}}, {"F=F[+F]F[-F]F", "F+-", "F", 15, []int64{30517578125, 7629394531, 7629394531}},
		// Only the first rule for a name matters.
		{"A=AB A=AA", "AB", "A", 3, []int64{1, 3}}, {"A=AA A=AB", "AB", "A", 3, []int64{8, 0}},
	} {
		expect(t, system(c.rules), c.names, plain(c.w), c.n, c.want, api.OK)
	}
}

func TestCountsOfSteps(t *testing.T) {
	for _, n := range wrongSteps() {
		for _, w := range [][]mod{nil, plain("A"), times(2000, "A")} {
			expect(t, fibonacci(), "AB", w, n, nil, api.ErrArg)
			expect(t, nil, "A", w, n, nil, api.ErrArg)
			expect(t, system("A="+strings.Repeat("A", 20)), "A", w, n, nil, api.ErrArg)
		}
		expect(t, nil, "", nil, n, nil, api.ErrArg)
	}
	for n := range 61 {
		expect(t, system("B=AB A="), "AB", plain("BB"), n, []int64{int64(min(2*n, 2)), 2}, api.OK)
		expect(t, system("B=AB"), "AB", plain("BB"), n, []int64{int64(2 * n), 2}, api.OK)
		expect(t, nil, "", nil, n, nil, api.OK)
	}
}

func TestCountsOfWords(t *testing.T) {
	for _, w := range [][]mod{nil, {}, plain("#")[:0], {with('['), with(']')}} {
		for _, n := range []int{0, 1, 60} {
			expect(t, fibonacci(), "AB", w, n, []int64{0, 0}, api.OK)
		}
	}
	expect(t, fibonacci(), "AB", []mod{{Name: 'A', Args: []int{}}, {Name: '[', Args: []int{}}, {Name: 'B', Args: make([]int, 3)[:0]}, with(']')}, 1, []int64{2, 1}, api.OK)
	for _, n := range []int{1, 2, 1000, 1999, 2000} {
		expect(t, fibonacci(), "AB", times(n, "A"), 0, []int64{int64(n), 0}, api.OK)
		expect(t, fibonacci(), "AB", times(n, "A"), 2, []int64{int64(2 * n), int64(n)}, api.OK)
		expect(t, fibonacci(), "AB", times(n, "AB")[:n], 1, []int64{int64(n), int64((n + 1) / 2)}, api.OK)
	}
	expect(t, fibonacci(), "AB", plain(strings.Repeat("[", 999)+"AB"+strings.Repeat("]", 999)), 1, []int64{2, 1}, api.OK)
}

// The word's error comes before that of the number of steps, and before counts that are too great.
func TestCountsOfWrongWords(t *testing.T) {
	for _, c := range badWords() {
		for _, n := range []int{0, 1, 30, 60, -1, 61} {
			expect(t, fibonacci(), "AB", c.w, n, nil, c.e)
			expect(t, nil, "AB", c.w, n, nil, c.e)
			expect(t, system("A="+strings.Repeat("A", 20)), "AB", c.w, n, nil, c.e)
		}
	}
	// A name is among the names or not, whatever the rules are.
	expect(t, nil, "", plain("A"), 0, nil, api.ErrBad)
	expect(t, nil, "B", plain("A"), 0, nil, api.ErrBad)
	expect(t, nil, "ab", plain("A"), 0, nil, api.ErrBad)
	expect(t, nil, "", plain("[A]"), 60, nil, api.ErrBad)
	for _, name := range letters {
		s := string(name)
		for k := range len(letters) - 11 {
			names := letters[k : k+12]
			if i := strings.Index(names, s); i >= 0 {
				want := make([]int64, 12)
				want[i] = 1
				expect(t, nil, names, plain(s), 1, want, api.OK)
			} else {
				expect(t, nil, names, plain(s), 1, nil, api.ErrBad)
			}
		}
	}
}

// Counts that reach MaxCount in the last step, and go past it in the next one.
func TestCountsAtTheLimit(t *testing.T) {
	ten := strings.Repeat("A", 10)
	// The counts of A are powers of 10, and those of B are smaller by 1, and greater by those at the beginning.
	rules := system("A=" + ten + strings.Repeat("B", 9))
	for more := range 8 {
		w := plain("A" + strings.Repeat("B", more))
		power := int64(1)
		for n := range 60 {
			want := []int64{power, power - 1 + int64(more)}
			if n > 15 || n == 15 && more > 1 {
				expect(t, rules, "AB", w, n, nil, api.ErrRange)
				continue
			}
			expect(t, rules, "AB", w, n, want, api.OK)
			power *= 10
		}
	}
	expect(t, rules, "AB", plain("AB"), 15, []int64{most, most}, api.OK)
	expect(t, rules, "BA", plain("AB"), 15, []int64{most, most}, api.OK)
	expect(t, rules, "AB", plain("ABB"), 15, nil, api.ErrRange)
	expect(t, rules, "BA", plain("ABB"), 15, nil, api.ErrRange)
	// From as many as a word may have.
	expect(t, system("A="+ten), "A", times(1000, "A"), 12, []int64{most}, api.OK)
	expect(t, system("A="+ten), "A", times(1001, "A"), 12, nil, api.ErrRange)
	expect(t, system("A="+ten), "A", times(1999, "A"), 11, []int64{199900000000000}, api.OK)
	expect(t, system("A="+ten+ten), "A", times(2000, "A"), 8, []int64{51200000000000}, api.OK)
	expect(t, system("A="+ten+ten), "A", times(1953, "A"), 9, []int64{999936000000000}, api.OK)
	expect(t, system("A="+ten+ten), "A", times(1954, "A"), 9, nil, api.ErrRange)
	expect(t, system("A="+ten+ten), "A", times(2000, "A"), 60, nil, api.ErrRange)
}

// Counts that reach MaxCount behind a step, and are 0 later, and some that are too great there.
func TestCountsAtTheLimitInAnEarlierStep(t *testing.T) {
	rules := chain("20 20 20 20 10 10 10 10 10 10 10")
	for n := 11; n <= 60; n++ {
		want := make([]int64, 12)
		if n == 11 {
			want[11] = most
		}
		expect(t, rules, dozen, times(625, "A"), n, want, api.OK)
		expect(t, rules, dozen, times(626, "A"), n, nil, api.ErrRange)
		expect(t, rules, dozen, append(times(625, "A"), with('A')), n, nil, api.ErrRange)
		// What is a step ahead, is gone before.
		expect(t, rules, dozen, append(times(625, "A"), times(1250, "B")...), n, want, api.OK)
	}
	// The greatest counts that there may be, as products modulo 2^64, too.
	for n := 1; n <= 60; n++ {
		want := make([]int64, 12)
		count := int64(2000)
		for range n {
			count *= 20
			if count > most {
				break
			}
		}
		if count > most {
			expect(t, chain("20 20 20 20 20 20 20 20 20 20 20"), dozen, times(2000, "A"), n, nil, api.ErrRange)
			continue
		}
		want[n] = count
		expect(t, chain("20 20 20 20 20 20 20 20 20 20 20"), dozen, times(2000, "A"), n, want, api.OK)
	}
}

// A length may be too great although no count is.
func TestLengthAtTheLimit(t *testing.T) {
	both := "A=" + strings.Repeat("A", 10) + " B=" + strings.Repeat("B", 10)
	for _, c := range []struct {
		rules, names, w string
		n               int
		counts          []int64
		length          int64
		e               api.Errno
	}{
		{both, "AB", "ABBBBBBBBB", 14, []int64{100000000000000, 900000000000000}, most, api.OK},
		{both, "BA", "ABBBBBBBBB", 14, []int64{900000000000000, 100000000000000}, most, api.OK},
		{both, "ABC", "ABBBBBBBBB", 14, []int64{100000000000000, 900000000000000, 0}, most, api.OK},
		{both, "ABC", "ABBBBBBBBBC", 14, []int64{100000000000000, 900000000000000, 1}, 0, api.ErrRange},
		{both, "CAB", "ABBBBBBBBBC", 14, []int64{1, 100000000000000, 900000000000000}, 0, api.ErrRange},
		{both, "CAB", "ABBBBBBBBC", 14, []int64{1, 100000000000000, 800000000000000}, 900000000000001, api.OK},
		{both, "AB", "AB", 15, []int64{most, most}, 0, api.ErrRange},
		{both, "ABC", "A", 15, []int64{most, 0, 0}, most, api.OK},
		{both, "CBA", "AC", 15, []int64{1, 0, most}, 0, api.ErrRange},
	} {
		if counts, e := growth.Counts(system(c.rules), c.names, plain(c.w), c.n); !agrees(counts, e, c.counts, api.OK) {
			t.Error(c, counts, e)
		}
		if length, e := growth.Length(system(c.rules), c.names, plain(c.w), c.n); length != c.length || e != c.e {
			t.Error(c, length, e)
		}
	}
	// All of a dozen counts are as great as they may be.
	all := ""
	for _, name := range dozen {
		all += fmt.Sprintf("%c=%s ", name, strings.Repeat(string(name), 10))
	}
	expect(t, system(all), dozen, plain(dozen), 13, slices.Repeat([]int64{10000000000000}, 12), api.OK)
	expect(t, system(all), dozen, plain(dozen), 14, slices.Repeat([]int64{100000000000000}, 12), api.OK)
	expect(t, system(all), dozen, plain(dozen), 15, slices.Repeat([]int64{most}, 12), api.OK)
	expect(t, system(all), dozen, plain(dozen), 16, nil, api.ErrRange)
}

// Only the length after the last step matters, while each count of all steps does.
func TestLengthInAnEarlierStep(t *testing.T) {
	rules := chain("20 20 20 20 20 10 10 10 10 0 0")
	rules[9] = from('J', strings.Repeat("KL", 10))
	w := times(2000, "A")
	if length, e := growth.Length(rules, dozen, w, 9); length != 64000000000000 || e != api.OK {
		t.Error(length, e)
	}
	want := make([]int64, 12)
	want[10], want[11] = 640000000000000, 640000000000000
	if counts, e := growth.Counts(rules, dozen, w, 10); !agrees(counts, e, want, api.OK) {
		t.Error(counts, e)
	}
	if length, e := growth.Length(rules, dozen, w, 10); length != 0 || e != api.ErrRange {
		t.Error(length, e)
	}
	for n := 11; n <= 60; n++ {
		if length, e := growth.Length(rules, dozen, w, n); length != 0 || e != api.OK {
			t.Error(n, length, e)
		}
	}
}

// Many systems and words, next to the definition in integers of any size, and from the end to the beginning.
func TestCountsOfManySystems(t *testing.T) {
	r := rand.New(rand.NewSource(115))
	counts := map[api.Errno]int{}
	for range 200 {
		s := someSystem(r)
		w := plain(someText(r, s.names, r.Intn([]int{2, 20, 2001}[r.Intn(3)])))
		all := grown(s.rules, s.names, w, 60)
		for n := range 61 {
			want, e := counted(all, n)
			if c, f := growth.Counts(s.rules, s.names, w, n); !agrees(c, f, want, e) {
				t.Fatal(s, brief(w), n, c, want, e, f)
			}
			length, e := measured(all, n)
			if c, f := growth.Length(s.rules, s.names, w, n); c != length || f != e {
				t.Fatal(s, brief(w), n, c, length, e, f)
			}
			counts[e]++
		}
	}
	if counts[api.OK] < 3000 || counts[api.ErrRange] < 1000 {
		t.Error(counts)
	}
}

// Words of which some have an error, next to the definition.
func TestCountsOfManyWords(t *testing.T) {
	r := rand.New(rand.NewSource(116))
	counts := map[api.Errno]int{}
	for range 3000 {
		s := someSystem(r)
		w := plain(someText(r, s.names, 1+r.Intn(30)))
		switch i := r.Intn(len(w)); r.Intn(6) {
		case 0:
			w[i].Name = byte(r.Intn(256))
		case 1:
			w[i].Name = "[]"[r.Intn(2)]
		case 2:
			w[i].Args = make([]int, r.Intn(4))
		case 3:
			w[i].Name = letters[r.Intn(len(letters))]
		}
		n := r.Intn(66) - 2
		want := checkedWord(w, s.names)
		if want == api.OK && (n < 0 || n > 60) {
			want = api.ErrArg
		}
		c, e := growth.Counts(s.rules, s.names, w, n)
		if want == api.OK {
			all, f := counted(grown(s.rules, s.names, w, n), n)
			if !agrees(c, e, all, f) {
				t.Fatal(s, brief(w), n, c, all, e, f)
			}
		} else if e != want || len(c) > 0 {
			t.Fatal(s, brief(w), n, c, e, want)
		}
		counts[want]++
	}
	if counts[api.OK] < 600 || counts[api.ErrBad] < 600 || counts[api.ErrOpen] < 200 || counts[api.ErrArg] < 30 {
		t.Error(counts)
	}
}
