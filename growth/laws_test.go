package growth_test

import (
	"math/big"
	"math/rand"
	"slices"
	"strings"
	"testing"

	"gambrel/api"
	"gambrel/growth"
	"gambrel/rewrite"
	"gambrel/word"
)

// tallied returns how many modules of a word have each of names.
func tallied(w []mod, names string) (counts []int64, total int64) {
	for _, name := range []byte(names) {
		n := int64(word.Count(w, name))
		counts = append(counts, n)
		total += n
	}
	return counts, total
}

// The counts are those of the words that layer 7 makes, where it has no error.
func TestCountsAreThoseOfWords(t *testing.T) {
	r := rand.New(rand.NewSource(117))
	list := goods()
	for range 300 {
		list = append(list, someSystem(r))
	}
	made := 0
	for _, s := range list {
		w := plain(someText(r, s.names, min(r.Intn(30), 30*len(s.names))))
		for n := range api.MaxSteps + 1 {
			v, e := rewrite.Run(s.rules, w, n)
			if e != api.OK {
				break
			}
			want, total := tallied(v, s.names)
			if counts, e := growth.Counts(s.rules, s.names, w, n); !agrees(counts, e, want, api.OK) {
				t.Fatal(s, brief(w), n, counts, want, e)
			}
			if length, e := growth.Length(s.rules, s.names, w, n); length != total || e != api.OK {
				t.Fatal(s, brief(w), n, length, total, e)
			}
			made++
		}
	}
	if made < 3000 {
		t.Error(made)
	}
}

// The matrix has in each row the counts of a single module after a step.
func TestRowsAreCountsOfSingleModules(t *testing.T) {
	r := rand.New(rand.NewSource(118))
	for _, s := range goods() {
		m, e := growth.Matrix(s.rules, s.names)
		if e != api.OK || len(m) != len(s.names) {
			t.Fatal(s, m, e)
		}
		for i := range m {
			w := plain(s.names[i : i+1])
			if counts, e := growth.Counts(s.rules, s.names, w, 1); !agrees(counts, e, m[i], api.OK) {
				t.Error(s, i, counts, m[i], e)
			}
			v, e := rewrite.Step(s.rules, w)
			if counts, _ := tallied(v, s.names); !agrees(counts, e, m[i], api.OK) {
				t.Error(s, i, v, m[i], e)
			}
			start := make([]int64, len(m))
			start[i] = 1
			if counts, e := growth.Counts(s.rules, s.names, w, 0); !agrees(counts, e, start, api.OK) {
				t.Error(s, i, counts, e)
			}
		}
		// A word without modules, but brackets, has no counts.
		if counts, e := growth.Counts(s.rules, s.names, plain(strings.Repeat("[]", r.Intn(1000))), r.Intn(61)); !agrees(counts, e, make([]int64, len(m)), api.OK) {
			t.Error(s, counts, e)
		}
	}
}

// inFront returns the matrix with counts in its first row, and 0 elsewhere.
func inFront(counts []int64) rows {
	m := filled(len(counts), len(counts), 0)
	if len(m) > 0 {
		m[0] = slices.Clone(counts)
	}
	return m
}

// The counts after n steps are those at the beginning times the matrix, n times, and so are the errors.
func TestCountsAreProducts(t *testing.T) {
	r := rand.New(rand.NewSource(119))
	kinds := map[api.Errno]int{}
	for range 300 {
		s := someSystem(r)
		w := plain(someText(r, s.names, r.Intn(40)))
		m, _ := growth.Matrix(s.rules, s.names)
		start, e := growth.Counts(s.rules, s.names, w, 0)
		now := inFront(start)
		for n := range 61 {
			counts, f := growth.Counts(s.rules, s.names, w, n)
			if f != e || e == api.OK && !slices.Equal(counts, now[0]) {
				t.Fatal(s, brief(w), n, counts, now, e, f)
			}
			kinds[e]++
			if e == api.OK {
				now, e = growth.Times(now, m)
			}
		}
	}
	if kinds[api.OK] < 3000 || kinds[api.ErrRange] < 1000 {
		t.Error(kinds)
	}
}

// The matrix to the power of n has in each row the counts of a single module after n steps, and those of a word are the sums over its modules.
func TestPowersAreCounts(t *testing.T) {
	r := rand.New(rand.NewSource(120))
	kinds := map[api.Errno]int{}
	for range 100 {
		s := someSystem(r)
		w := plain(someText(r, s.names, r.Intn(2000)))
		start, _ := tallied(w, s.names)
		m, e := growth.Matrix(s.rules, s.names)
		power, want := unit(len(m), 1), api.OK
		for n := 0; n <= 60 && e == api.OK; n++ {
			var sums []int64
			for k := range m {
				var column []*big.Int
				for i := range m {
					column = append(column, big.NewInt(power[i][k]))
				}
				x := dot(start, column)
				if tooGreat(x) {
					want = api.ErrRange
				}
				sums = append(sums, x.Int64())
			}
			if want != api.OK {
				sums = nil
			}
			if counts, e := growth.Counts(s.rules, s.names, w, n); !agrees(counts, e, sums, want) {
				t.Fatal(s, brief(w), n, counts, sums, e, want)
			}
			for i := range m {
				if counts, e := growth.Counts(s.rules, s.names, plain(s.names[i:i+1]), n); !agrees(counts, e, power[i], api.OK) {
					t.Fatal(s, n, i, counts, power, e)
				}
			}
			kinds[want]++
			left, f := growth.Times(power, m)
			right, g := growth.Times(m, power)
			if !agree(left, f, right, g) {
				t.Fatal(s, n, left, right, f, g)
			}
			power, e = left, f
		}
	}
	if kinds[api.OK] < 1000 || kinds[api.ErrRange] < 50 {
		t.Error(kinds)
	}
}

// The counts of a joint word are the sums of those of its parts.
func TestCountsOfJointWords(t *testing.T) {
	r := rand.New(rand.NewSource(121))
	kinds := map[api.Errno]int{}
	for range 2000 {
		s, n := someSystem(r), r.Intn(61)
		a, b := plain(someText(r, s.names, r.Intn(1000))), plain(someText(r, s.names, r.Intn(1000)))
		w, e := word.Join(a, b)
		if e != api.OK {
			t.Fatal(e)
		}
		first, e := growth.Counts(s.rules, s.names, a, n)
		second, f := growth.Counts(s.rules, s.names, b, n)
		want, g := growth.Counts(s.rules, s.names, w, n)
		other, h := growth.Counts(s.rules, s.names, slices.Concat(b, a), n)
		if !agrees(other, h, want, g) {
			t.Fatal(s, n, brief(a), brief(b), want, other, g, h)
		}
		kinds[g]++
		if g == api.OK {
			for i := range first {
				first[i] += second[i]
			}
			if e != api.OK || f != api.OK || !slices.Equal(first, want) {
				t.Fatal(s, n, brief(a), brief(b), first, want, e, f)
			}
		}
		// A part alone may only be too great if all together are.
		if g == api.OK && (e != api.OK || f != api.OK) {
			t.Fatal(s, n, brief(a), brief(b), e, f, g)
		}
	}
	if kinds[api.OK] < 500 || kinds[api.ErrRange] < 200 {
		t.Error(kinds)
	}
	// Where each part is small enough, but not both together.
	ten := system("A=" + strings.Repeat("A", 10))
	expect(t, ten, "A", times(600, "A"), 12, []int64{600000000000000}, api.OK)
	expect(t, ten, "A", times(400, "A"), 12, []int64{400000000000000}, api.OK)
	expect(t, ten, "A", times(1000, "A"), 12, []int64{most}, api.OK)
	expect(t, ten, "A", times(1200, "A"), 12, nil, api.ErrRange)
}

// Brackets, and the order of modules, do not matter: neither in a word nor in an Out.
func TestBracketsDoNotMatter(t *testing.T) {
	r := rand.New(rand.NewSource(122))
	bare := strings.NewReplacer("[", "", "]", "")
	for range 1000 {
		s, n := someSystem(r), r.Intn(61)
		text := someText(r, s.names, r.Intn(100))
		var flat []rule
		for _, o := range s.rules {
			flat = append(flat, from(o.Name, shuffled(r, bare.Replace(outOf([]rule{o}, o.Name)))))
		}
		m, e := growth.Matrix(s.rules, s.names)
		if o, f := growth.Matrix(flat, s.names); !agree(o, f, m, e) {
			t.Fatal(s, flat, m, o, e, f)
		}
		want, e := growth.Counts(s.rules, s.names, plain(text), n)
		for _, w := range [][]mod{plain(bare.Replace(text)), plain("[" + text + "][]"), plain(shuffled(r, bare.Replace(text)))} {
			if counts, f := growth.Counts(flat, s.names, w, n); !agrees(counts, f, want, e) {
				t.Fatal(s, flat, text, n, counts, want, e, f)
			}
		}
	}
}

// With the names in another order, the counts are in this order, and the length is the same.
func TestCountsOfNamesInAnotherOrder(t *testing.T) {
	r := rand.New(rand.NewSource(123))
	for range 1000 {
		s, n := someSystem(r), r.Intn(61)
		w := plain(someText(r, s.names, r.Intn(100)))
		other := shuffled(r, s.names)
		counts, e := growth.Counts(s.rules, s.names, w, n)
		moved, f := growth.Counts(s.rules, other, w, n)
		var back []int64
		for _, name := range []byte(s.names) {
			if f == api.OK {
				back = append(back, moved[strings.IndexByte(other, name)])
			}
		}
		if !agrees(back, f, counts, e) {
			t.Fatal(s, other, brief(w), n, counts, moved, e, f)
		}
		length, e := growth.Length(s.rules, s.names, w, n)
		if again, f := growth.Length(s.rules, other, w, n); again != length || f != e {
			t.Fatal(s, other, brief(w), n, length, again, e, f)
		}
	}
}

// The length is the sum of the counts, and after some steps that of the modules of the word but brackets.
func TestLengthIsTheSum(t *testing.T) {
	r := rand.New(rand.NewSource(124))
	kinds := map[api.Errno]int{}
	for range 2000 {
		s, n := someSystem(r), r.Intn(61)
		w := plain(someText(r, s.names, r.Intn(100)))
		counts, e := growth.Counts(s.rules, s.names, w, n)
		total := new(big.Int)
		for _, c := range counts {
			total.Add(total, big.NewInt(c))
		}
		want := total.Int64()
		if tooGreat(total) {
			want, e = 0, api.ErrRange
		}
		if length, f := growth.Length(s.rules, s.names, w, n); length != want || f != e {
			t.Fatal(s, brief(w), n, counts, length, e, f)
		}
		kinds[e]++
	}
	if kinds[api.OK] < 500 || kinds[api.ErrRange] < 200 {
		t.Error(kinds)
	}
}
