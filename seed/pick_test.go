package seed_test

import (
	"slices"
	"testing"

	"gambrel/api"
	"gambrel/seed"
)

func TestPick(t *testing.T) {
	for _, c := range []struct {
		weights []int
		first   uint64
		want    []int
	}{
		{[]int{1, 0, 2}, 0, []int{0, 2, 2, 0, 2, 2}},
		{[]int{1}, 0, []int{0, 0, 0}},
		{[]int{0, 1}, 0, []int{1, 1}},
		{[]int{0, 0, 1, 0}, 5, []int{2, 2}},
		{[]int{2, 1, 0}, 0, []int{0, 0, 1, 0}},
		{[]int{0, 2, 0, 1, 0}, 0, []int{1, 1, 3, 1, 1, 3}},
		{[]int{3, 3}, 1, []int{0, 0, 1, 1, 1, 0}},
		{[]int{api.MaxWeight - 1, 1}, api.MaxWeight - 2, []int{0, 1, 0}},
		{[]int{1, api.MaxWeight - 1}, api.MaxWeight - 1, []int{1, 0, 1}},
		{[]int{1, 1}, greatest - 1, []int{0, 1}},
		{[]int{1, 1}, 1<<63 - 1, []int{1, 0, 1}},
		// Divided by 3, the greatest number has the rest 0, and divided by 10^9 the rest 709551615.
		{[]int{1, 0, 2}, greatest - 2, []int{2, 2, 0}},
		{[]int{709551615, 1, 290448384}, greatest - 1, []int{0, 1}},
	} {
		for i, want := range c.want {
			if got, e := seed.Pick(c.weights, c.first+uint64(i)); got != want || e != api.OK {
				t.Errorf("%v %d: %d %v", c.weights, c.first+uint64(i), got, e)
			}
		}
	}
}

func TestPickOfAllLists(t *testing.T) {
	for _, weights := range goodWeights() {
		for _, h := range someNumbers(sum(weights)) {
			if got, e := seed.Pick(weights, h); got != picked(weights, h) || e != api.OK {
				t.Errorf("%v %d: %d %v", weights, h, got, e)
			}
		}
	}
}

// Each index is picked from the first to the last of its numbers, and no others.
func TestEndsOfEachIndex(t *testing.T) {
	for _, weights := range goodWeights() {
		total := sum(weights)
		begin := uint64(0)
		for i, weight := range weights {
			if weight == 0 {
				continue
			}
			end := begin + uint64(weight)
			for _, times := range []uint64{0, 1, 5, 12345, greatest/uint64(total) - 2} {
				base := times * uint64(total)
				for h, want := range map[uint64]bool{base + begin: true, base + end - 1: true, base + end: weight == total, base + begin - 1 + uint64(total): weight == total} {
					if got, e := seed.Pick(weights, h); (got == i) != want || e != api.OK {
						t.Errorf("%v %d %d: %d %v", weights, i, h, got, e)
					}
				}
			}
			begin = end
		}
	}
}

func TestPickOfOtherLists(t *testing.T) {
	for _, weights := range badWeights() {
		for _, h := range someNumbers(3) {
			if got, e := seed.Pick(weights, h); got != 0 || e != api.ErrArg {
				t.Errorf("%v %d: %d %v", weights, h, got, e)
			}
		}
	}
}

func TestChoose(t *testing.T) {
	for _, weights := range goodWeights() {
		for _, p := range paths()[:40] {
			for _, s := range seeds()[:20] {
				if got, e := seed.Choose(s, p, weights); got != picked(weights, numberOf(s, p)) || e != api.OK {
					t.Errorf("%d %q %v: %d %v", s, p, weights, got, e)
				}
			}
		}
	}
}

func TestChooseFromOtherLists(t *testing.T) {
	for _, weights := range badWeights() {
		for _, p := range []string{"", "a/b[1]", "\x00\xff"} {
			for _, s := range seeds() {
				if got, e := seed.Choose(s, p, weights); got != 0 || e != api.ErrArg {
					t.Errorf("%d %q %v: %d %v", s, p, weights, got, e)
				}
			}
		}
	}
}

func TestWeightsAreNotChanged(t *testing.T) {
	for _, list := range append(goodWeights(), badWeights()...) {
		memory := append(slices.Clone(list), 17, -1, 5)
		weights := memory[:len(list)]
		before := slices.Clone(memory)
		seed.Pick(weights, 12345)
		seed.Choose(-3, "a", weights)
		if !slices.Equal(memory, before) {
			t.Errorf("%v %v", before, memory)
		}
	}
}
