package seed_test

import (
	"slices"
	"strings"
	"testing"

	"gambrel/api"
	"gambrel/seed"
)

// counts returns how often each index is picked by so many numbers that follow each other; after the greatest one comes 0.
func counts(t *testing.T, weights []int, first uint64, n int) []int {
	list := make([]int, len(weights))
	for i := range n {
		index, e := seed.Pick(weights, first+uint64(i))
		if e != api.OK {
			t.Fatal(weights, first, i, e)
		}
		list[index]++
	}
	return list
}

func TestEachIndexIsPickedByAsManyAsItsWeight(t *testing.T) {
	for _, weights := range smallWeights() {
		total := sum(weights)
		for _, first := range []uint64{0, 1, 2, uint64(total) - 1, uint64(total), 1000003, 1<<32 - 5, 1<<63 - 1, 1<<63 - uint64(total), greatest - uint64(total), greatest - uint64(total) + 1} {
			if got := counts(t, weights, first, total); !slices.Equal(got, weights) {
				t.Errorf("%v %d: %v", weights, first, got)
			}
		}
	}
	weights := []int{0, 199999, 1, 0, 800000}
	if got := counts(t, weights, 987654321987654321, 1000000); !slices.Equal(got, weights) {
		t.Error(got)
	}
}

// If the sum is a power of 2, the rests go on from the greatest number to 0.
func TestEachIndexIsPickedByAsManyAsItsWeightPastTheGreatestNumber(t *testing.T) {
	tried := 0
	for _, weights := range smallWeights() {
		total := sum(weights)
		if total&(total-1) != 0 {
			continue
		}
		tried++
		for back := range total {
			if got := counts(t, weights, greatest-uint64(back), total); !slices.Equal(got, weights) {
				t.Errorf("%v %d: %v", weights, back, got)
			}
		}
	}
	if tried < 5 {
		t.Error(tried)
	}
}

// 2^64 is a multiple of no other sum. The rests do not go on there: the greatest number has the rest of itself, and 0 has the rest 0.
func TestPickPastTheGreatestNumber(t *testing.T) {
	for _, weights := range smallWeights() {
		total := sum(weights)
		for i := range 2 * total {
			h := greatest - uint64(total) + 1 + uint64(i)
			if got, e := seed.Pick(weights, h); got != picked(weights, h) || e != api.OK {
				t.Errorf("%v %d: %d %v", weights, h, got, e)
			}
		}
	}
	// 2^64 - 2, 2^64 - 1 and 0 have the rests 2, 0 and 0.
	if got := counts(t, []int{1, 0, 2}, greatest-1, 3); !slices.Equal(got, []int{2, 0, 1}) {
		t.Error(got)
	}
}

func TestDifferentSeedsHaveDifferentNumbers(t *testing.T) {
	list := seeds()
	for s := int64(-5000); s < 5000; s++ {
		list = append(list, s, s<<32, s<<50+s)
	}
	slices.Sort(list)
	list = slices.Compact(list)
	for _, p := range []string{"", "a", "tower/floor[3]", "\x00", strings.Repeat("\xff", 100)} {
		of := map[uint64]int64{}
		for _, s := range list {
			h := seed.Of(s, p)
			if other, met := of[h]; met {
				t.Errorf("%q: %d and %d both have %X", p, s, other, h)
			}
			of[h] = s
		}
	}
}

// undone returns x with which x xor (x shifted right) is h.
func undone(h uint64, shift uint) uint64 {
	x := h
	for range 64 / shift {
		x = h ^ x>>shift
	}
	return x
}

// inverse returns the number whose product with an odd one is 1: each round doubles the bits that are right.
func inverse(odd uint64) uint64 {
	x := odd
	for range 6 {
		x *= 2 - odd*x
	}
	return x
}

// seedOf returns the only seed that has the number h for a path.
func seedOf(h uint64, path string) int64 {
	h = undone(h, 31)
	h = undone(h*inverse(0x94D049BB133111EB), 27)
	h = undone(h*inverse(0xBF58476D1CE4E5B9), 30)
	for _, b := range slices.Backward([]byte(path)) {
		h = h*inverse(1099511628211) ^ uint64(b)
	}
	return int64(h ^ 0x9E3779B97F4A7C15)
}

func TestStepsCanBeUndone(t *testing.T) {
	for _, p := range paths() {
		for _, s := range seeds() {
			if got := seedOf(seed.Of(s, p), p); got != s {
				t.Errorf("%d %q %d", s, p, got)
			}
		}
	}
}

func TestPathsThatDifferInOneByteHaveDifferentNumbers(t *testing.T) {
	for _, p := range []string{"a", "ab", "tower/floor[3]/window", "\x00\x00\x00", "\xff\x80", "\u00e4\u20ac", strings.Repeat("z", 60)} {
		for _, s := range seeds() {
			for at := range len(p) {
				of := map[uint64]int{}
				for b := range 256 {
					changed := []byte(p)
					changed[at] = byte(b)
					h := seed.Of(s, string(changed))
					if other, met := of[h]; met {
						t.Errorf("%d %q: %d and %d at %d both have %X", s, p, b, other, at, h)
					}
					of[h] = b
				}
			}
		}
	}
}

func TestDrawChooseAndPickAgree(t *testing.T) {
	for _, p := range paths() {
		for _, s := range seeds() {
			for _, n := range []int{1, 2, 7, api.MaxItems} {
				drawn, e := seed.Draw(s, p, n)
				chosen, f := seed.Choose(s, p, slices.Repeat([]int{1}, n))
				picked, g := seed.Pick(slices.Repeat([]int{1000}, n), uint64(drawn)*1000+999)
				if drawn != chosen || drawn != picked || e != api.OK || f != api.OK || g != api.OK {
					t.Errorf("%d %q %d: %d %d %d %v %v %v", s, p, n, drawn, chosen, picked, e, f, g)
				}
			}
		}
	}
}

// Asked in any order, and by many at a time, all choices are the same.
func TestChoicesAreTheSameWhoeverAsks(t *testing.T) {
	type answer struct {
		number        uint64
		drawn, chosen int
	}
	ask := func(i int) answer {
		s, p := seeds()[i%len(seeds())], paths()[i%len(paths())]
		drawn, _ := seed.Draw(s, p, 1000)
		chosen, _ := seed.Choose(s, p, []int{1, 2, 3})
		return answer{seed.Of(s, p), drawn, chosen}
	}
	const n = 200
	first := make([]answer, n)
	for i := range n {
		first[i] = ask(i)
	}
	done := make(chan bool)
	for range 4 {
		go func() {
			same := true
			for i := range n {
				same = same && ask(n-1-i) == first[n-1-i]
			}
			done <- same
		}()
	}
	for range 4 {
		if !<-done {
			t.Error("other choices")
		}
	}
}
