package seed_test

import (
	"math"
	"slices"
	"strconv"
	"testing"

	"gambrel/api"
	"gambrel/seed"
)

// ordered is the definition of an order.
func ordered(s int64, p string, n int) []int {
	var list []int
	for i := range n {
		list = append(list, i)
	}
	for i := n - 1; i >= 1; i-- {
		k := rest(numberOf(s, p+"/"+strconv.Itoa(i)), i+1)
		first, second := list[i], list[k]
		list[i], list[k] = second, first
	}
	return list
}

func TestOrder(t *testing.T) {
	for _, c := range []struct {
		s    int64
		p    string
		n    int
		want []int
	}{
		{0, "", 0, nil},
		{0, "", 1, []int{0}},
		{0, "", 2, []int{0, 1}},
		{1, "", 2, []int{1, 0}},
		{0, "", 10, []int{0, 9, 4, 6, 5, 1, 2, 7, 3, 8}},
		{7, "tower/floor[3]", 12, []int{4, 6, 2, 0, 1, 5, 7, 11, 10, 3, 9, 8}},
		{math.MinInt64, "\xff\x00", 11, []int{1, 0, 9, 3, 5, 8, 4, 7, 2, 6, 10}},
	} {
		if got, e := seed.Order(c.s, c.p, c.n); !slices.Equal(got, c.want) || e != api.OK {
			t.Errorf("%d %q %d: %v %v", c.s, c.p, c.n, got, e)
		}
	}
}

func TestOrderOfNoneAndOfOne(t *testing.T) {
	for _, p := range paths() {
		for _, s := range seeds() {
			if got, e := seed.Order(s, p, 0); len(got) != 0 || e != api.OK {
				t.Errorf("%d %q %v %v", s, p, got, e)
			}
			if got, e := seed.Order(s, p, 1); !slices.Equal(got, []int{0}) || e != api.OK {
				t.Errorf("%d %q %v %v", s, p, got, e)
			}
		}
	}
}

func TestOrderOfAllSizes(t *testing.T) {
	for n := range api.MaxItems + 1 {
		for _, p := range []string{"", "/", "a", "tower/floor[3]", "\x00\xff"} {
			for _, s := range []int64{0, 5, math.MinInt64} {
				if got, e := seed.Order(s, p, n); !slices.Equal(got, ordered(s, p, n)) || e != api.OK {
					t.Errorf("%d %q %d: %v %v", s, p, n, got, e)
				}
			}
		}
	}
}

func TestOrderOfAllPairs(t *testing.T) {
	for _, p := range paths() {
		if len(p) > 300 {
			continue
		}
		for _, s := range seeds() {
			for _, n := range []int{2, 3, 13} {
				if got, e := seed.Order(s, p, n); !slices.Equal(got, ordered(s, p, n)) || e != api.OK {
					t.Errorf("%d %q %d: %v %v", s, p, n, got, e)
				}
			}
		}
	}
}

func TestOrderOutOfRange(t *testing.T) {
	for _, p := range []string{"", "a", "\xff\x00"} {
		for _, s := range seeds() {
			for _, n := range []int{-1, -2, -api.MaxItems, math.MinInt, api.MaxItems + 1, api.MaxItems + 2, 1 << 20, 1 << 32, 1<<32 + 1, math.MaxInt} {
				if got, e := seed.Order(s, p, n); len(got) != 0 || e != api.ErrArg {
					t.Errorf("%d %q %d: %v %v", s, p, n, got, e)
				}
			}
		}
	}
}

func TestOrderHasEachElementOnce(t *testing.T) {
	for n := range api.MaxItems + 1 {
		for _, p := range paths()[:30] {
			for _, s := range seeds()[:17] {
				got, e := seed.Order(s, p, n)
				if len(got) != n || e != api.OK {
					t.Fatalf("%d %q %d: %v %v", s, p, n, got, e)
				}
				slices.Sort(got)
				for i, element := range got {
					if element != i {
						t.Fatalf("%d %q %d: %v", s, p, n, got)
					}
				}
			}
		}
	}
}

func TestOrdersAreNotKept(t *testing.T) {
	first, _ := seed.Order(7, "tower/floor[3]", 12)
	want := slices.Clone(first)
	whole := first[:cap(first)]
	for i := range whole {
		whole[i] = -1
	}
	second, e := seed.Order(7, "tower/floor[3]", 12)
	if !slices.Equal(second, want) || e != api.OK {
		t.Errorf("%v %v", second, e)
	}
}
