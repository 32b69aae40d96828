package seed_test

import (
	"math"
	"math/big"
	"slices"
	"strings"

	"gambrel/api"
)

// greatest is the greatest number.
const greatest = math.MaxUint64

// seeds returns seeds of both signs: small ones, ones around powers of 2, and those at the limits.
func seeds() []int64 {
	list := []int64{0, 1, -1, 2, -2, 3, 7, -7, 42, 1000, -1000, 0x1E3779B97F4A7C15, -0x61C8864680B583EB, math.MaxInt64, math.MaxInt64 - 1, math.MinInt64, math.MinInt64 + 1}
	for bit := 2; bit < 63; bit += 7 {
		list = append(list, 1<<bit, 1<<bit-1, -1<<bit)
	}
	return list
}

// paths returns strings, whether they are paths of nodes or not.
func paths() []string {
	return []string{
		"", "a", "b", "aa", "ab", "ba", "tower", "tower/floor[3]", "tower/floor[3]/window", "tower/floor[30]", "/", "//", "a/", "/a", "/1", "0", "1", "10", "[", " ", "\n",
		"\x00", "\x00\x00", "\x00\x00\x00", "a\x00", "\x00a", "a\x00b", "\x7f", "\x80", "\x81", "\xfe", "\xff", "\xff\xff", "a\xffb", "\xc3", "\xa4", "\u00e4", "\u00c3\u00a4", "\u20ac", "\ufffd", "\U0001f3e0", "a\x00b\x80\xff", "\xed\xa0\x80",
		strings.Repeat("\xff", 200), strings.Repeat("\x00", 200), strings.Repeat("a", api.MaxText), strings.Repeat("\u00e4", api.MaxText), allBytes(),
	}
}

// allBytes returns a string of all bytes, from 0 to 255.
func allBytes() string {
	var list []byte
	for b := range 256 {
		list = append(list, byte(b))
	}
	return string(list)
}

// goodWeights returns lists of weights: small ones, ones with zeros in all places, and those at the limits.
func goodWeights() [][]int {
	list := append(smallWeights(), slices.Repeat([]int{api.MaxWeight / api.MaxItems}, api.MaxItems))
	for _, ones := range []int{0, 1, 100, api.MaxItems - 1} {
		most := make([]int, api.MaxItems)
		most[ones] = api.MaxWeight
		list = append(list, most)
	}
	return append(list,
		[]int{api.MaxWeight}, []int{api.MaxWeight - 1}, []int{api.MaxWeight - 1, 1}, []int{1, api.MaxWeight - 1}, []int{0, api.MaxWeight, 0}, []int{api.MaxWeight - 2, 0, 1, 1}, []int{api.MaxWeight / 2, api.MaxWeight / 2},
		[]int{999999937}, []int{300000000, 0, 699999999, 1}, []int{1 << 29}, []int{1 << 28, 0, 1 << 28},
	)
}

// smallWeights returns lists of weights whose sums are so small that all numbers can be tried.
func smallWeights() [][]int {
	return [][]int{
		{1}, {2}, {7}, {1, 1}, {1, 2}, {2, 1}, {1, 0, 2}, {0, 1}, {1, 0}, {0, 0, 1}, {1, 0, 0}, {0, 1, 0}, {0, 0, 3, 0, 0}, {0, 2, 0, 0, 5, 0}, {3, 0, 0, 0, 4}, {5, 3, 2}, {1, 1, 1, 1, 1, 1, 1, 1}, {4, 0, 4}, {0, 1, 3, 0, 4, 0}, {1000, 1, 23}, {1, 0, 4095}, {999},
		slices.Repeat([]int{1}, api.MaxItems), slices.Repeat([]int{0, 3}, api.MaxItems/2), slices.Repeat([]int{2, 0}, api.MaxItems/2), append(make([]int, api.MaxItems-1), 1), append([]int{6}, make([]int, api.MaxItems-1)...), slices.Repeat([]int{1}, api.MaxItems-1),
	}
}

// badWeights returns lists that are none of weights.
func badWeights() [][]int {
	all := slices.Repeat([]int{math.MaxInt}, 4)
	return [][]int{
		nil, {}, {0}, {0, 0}, {0, 0, 0, 0, 0}, make([]int, api.MaxItems), make([]int, api.MaxItems+1),
		slices.Repeat([]int{1}, api.MaxItems+1), append(make([]int, api.MaxItems), 1), append([]int{1}, make([]int, api.MaxItems)...), slices.Repeat([]int{1}, 100000),
		{-1}, {-1, 2}, {2, -1}, {1, -1}, {-1, 1}, {3, -1, 3}, {0, -1}, {-1, 0, 5}, {5, 0, -1}, {-5, -5}, {math.MinInt}, {math.MinInt, 1}, {1, math.MinInt}, {math.MinInt, math.MinInt}, {math.MinInt, math.MaxInt}, {math.MinInt, math.MaxInt, 2}, {math.MaxInt, math.MinInt, 2},
		append(slices.Repeat([]int{1}, api.MaxItems-1), -1),
		{api.MaxWeight + 1}, {api.MaxWeight, 1}, {1, api.MaxWeight}, {api.MaxWeight, 0, 1}, {api.MaxWeight, api.MaxWeight}, {api.MaxWeight + 1, -1}, {-1, api.MaxWeight + 1}, {api.MaxWeight, 2, -1}, {500000000, 500000000, 1}, {0, 500000001, 500000000, 0},
		append(slices.Repeat([]int{api.MaxWeight / api.MaxItems}, api.MaxItems-1), api.MaxWeight/api.MaxItems+1), slices.Repeat([]int{api.MaxWeight}, api.MaxItems),
		// Their sums have the least bits of a number from 1 to MaxWeight.
		{math.MaxInt}, {math.MaxInt, math.MaxInt}, {math.MaxInt, math.MaxInt, 3}, {math.MaxInt, 1, math.MaxInt, 2}, append(all, 5), append(all, 1000), {1 << 62, 1 << 62, 1 << 62, 1 << 62, 1}, {1<<32 + 1}, {1 << 31, 1 << 31, 1}, {1<<63 - 1, 1<<63 - 1, 12},
	}
}

// someNumbers returns numbers: the least ones, the greatest ones, ones around half of them and around multiples of n, and others.
func someNumbers(n int) []uint64 {
	list := []uint64{0, 1, 2, 3, 1<<63 - 1, 1 << 63, 1<<63 + 1, 1<<32 - 1, 1 << 32, greatest, greatest - 1, greatest - 2, 0xE220A8397B1DCDAF}
	m := uint64(n)
	for _, times := range []uint64{1, 2, 3, 1000, greatest / m / 2, greatest/m - 1, greatest / m} {
		list = append(list, times*m-1, times*m, times*m+1)
	}
	for i := range uint64(40) {
		list = append(list, i*0x9E3779B97F4A7C15)
	}
	return list
}

// times returns h times by, cut to 64 bits.
func times(h *big.Int, by uint64) *big.Int {
	product := new(big.Int).Mul(h, new(big.Int).SetUint64(by))
	return product.And(product, new(big.Int).SetUint64(greatest))
}

// shaken returns h xor h shifted right.
func shaken(h *big.Int, shift uint) *big.Int {
	return new(big.Int).Xor(h, new(big.Int).Rsh(h, shift))
}

// numberOf is the definition of the number of a seed and a path, in integers of any size.
func numberOf(seed int64, path string) uint64 {
	h := new(big.Int).SetUint64(uint64(seed))
	h.Xor(h, new(big.Int).SetUint64(0x9E3779B97F4A7C15))
	for _, b := range []byte(path) {
		h = times(h.Xor(h, big.NewInt(int64(b))), 1099511628211)
	}
	h = times(shaken(h, 30), 0xBF58476D1CE4E5B9)
	h = times(shaken(h, 27), 0x94D049BB133111EB)
	return shaken(h, 31).Uint64()
}

// rest returns h modulo n.
func rest(h uint64, n int) int {
	return int(new(big.Int).Mod(new(big.Int).SetUint64(h), big.NewInt(int64(n))).Int64())
}

func sum(weights []int) int {
	total := 0
	for _, weight := range weights {
		total += weight
	}
	return total
}

// picked returns the index that h picks: each weight is taken from the rest, until it is greater than what is left.
func picked(weights []int, h uint64) int {
	left := rest(h, sum(weights))
	for i, weight := range weights {
		if left < weight {
			return i
		}
		left -= weight
	}
	return -1
}
