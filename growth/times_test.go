package growth_test

import (
	"math"
	"math/rand"
	"slices"
	"testing"

	"gambrel/api"
	"gambrel/growth"
)

// multiply checks a product, or an error, next to the definition, too.
func multiply(t *testing.T, a, b, want rows, wantError api.Errno) {
	t.Helper()
	if m, e := growth.Times(a, b); !agree(m, e, want, wantError) {
		t.Errorf("%s %s: %s %v, not %s %v", brief(a), brief(b), brief(m), e, brief(want), wantError)
	}
	if m, e := multiplied(a, b); !agree(m, e, want, wantError) {
		t.Errorf("definition: %s %s: %s %v", brief(a), brief(b), brief(m), e)
	}
}

// filled returns rows, so many and so long, of the same element.
func filled(height, width int, x int64) rows {
	m := make(rows, height)
	for i := range m {
		m[i] = slices.Repeat([]int64{x}, width)
	}
	return m
}

// unit returns the matrix that changes no other one in a product, times x.
func unit(n int, x int64) rows {
	m := filled(n, n, 0)
	for i := range m {
		m[i][i] = x
	}
	return m
}

// changed returns a copy of m with the element x.
func changed(m rows, i, k int, x int64) rows {
	var c rows
	for _, row := range m {
		c = append(c, slices.Clone(row))
	}
	c[i][k] = x
	return c
}

func TestTimes(t *testing.T) {
	for _, c := range []struct{ a, b, want rows }{
		{rows{{1, 1}, {1, 0}}, rows{{1, 1}, {1, 0}}, rows{{2, 1}, {1, 1}}},
		{rows{{1, 2}, {3, 4}}, rows{{5, 6}, {7, 8}}, rows{{19, 22}, {43, 50}}},
		{rows{{5, 6}, {7, 8}}, rows{{1, 2}, {3, 4}}, rows{{23, 34}, {31, 46}}},
		{rows{{0, 1}, {0, 0}}, rows{{0, 0}, {1, 0}}, rows{{1, 0}, {0, 0}}},
		{rows{{0, 1}, {0, 0}}, rows{{0, 1}, {0, 0}}, rows{{0, 0}, {0, 0}}},
		{rows{{3}}, rows{{5}}, rows{{15}}},
		{rows{{0}}, rows{{most}}, rows{{0}}},
		{rows{{1, 2, 3}, {4, 5, 6}, {7, 8, 9}}, rows{{1, 0, 2}, {0, 3, 0}, {4, 0, 5}}, rows{{13, 6, 17}, {28, 15, 38}, {43, 24, 59}}},
		{filled(12, 12, 1), filled(12, 12, 2), filled(12, 12, 24)},
		{nil, nil, nil},
	} {
		multiply(t, c.a, c.b, c.want, api.OK)
	}
}

func TestTimesOfNoMatrix(t *testing.T) {
	for _, a := range []rows{nil, {}, filled(3, 3, -1)[:0]} {
		for _, b := range []rows{nil, {}, make(rows, 0, 5)} {
			multiply(t, a, b, nil, api.OK)
		}
		for n := 1; n <= 14; n++ {
			multiply(t, a, unit(n, 1), nil, api.ErrBad)
			multiply(t, unit(n, 1), a, nil, api.ErrBad)
		}
	}
}

// All heights and widths of both.
func TestTimesOfSizes(t *testing.T) {
	for n := range 16 {
		for k := range 16 {
			if n == k && n <= 12 {
				multiply(t, filled(n, n, 2), filled(n, n, 3), filled(n, n, int64(6*n)), api.OK)
				continue
			}
			// Rows that are too short or too long, in one of them or in both, and different sizes.
			multiply(t, filled(n, n, 1), filled(k, k, 1), nil, api.ErrBad)
			if n > 0 {
				multiply(t, filled(n, k, 1), filled(n, n, 1), nil, api.ErrBad)
				multiply(t, filled(n, n, 1), filled(n, k, 1), nil, api.ErrBad)
				multiply(t, filled(n, k, 1), filled(n, k, 1), nil, api.ErrBad)
				multiply(t, filled(n, k, 1), filled(k, n, 1), nil, api.ErrBad)
			}
		}
	}
	for _, n := range []int{13, 14, 24, 256, 268, 1000} {
		multiply(t, unit(n, 1), unit(n, 1), nil, api.ErrBad)
		multiply(t, filled(n, n, 0), filled(n, n, 0), nil, api.ErrBad)
		multiply(t, make(rows, n), make(rows, n), nil, api.ErrBad)
		multiply(t, filled(1, n, 1), filled(1, n, 1), nil, api.ErrBad)
	}
	multiply(t, make(rows, 1<<20), make(rows, 1<<20), nil, api.ErrBad)
}

// One row of another length, at each place, also where all elements together are as many as they should be.
func TestTimesOfDifferentRows(t *testing.T) {
	for n := 1; n <= 12; n++ {
		fine := unit(n, 1)
		for i := range n {
			for _, width := range []int{0, 1, n - 1, n + 1, 2 * n, 12, 13, 256 + n} {
				if width == n {
					continue
				}
				m := unit(n, 1)
				m[i] = make([]int64, width)
				multiply(t, m, fine, nil, api.ErrBad)
				multiply(t, fine, m, nil, api.ErrBad)
			}
			m := unit(n, 1)
			m[i] = append(m[i], 1)
			m[(i+1)%n] = m[(i+1)%n][:n-1]
			multiply(t, m, fine, nil, api.ErrBad)
			multiply(t, fine, m, nil, api.ErrBad)
			multiply(t, m, m, nil, api.ErrBad)
		}
	}
	// What stands in the memory behind a row is no part of it.
	m := rows{{1, 1, 1}, {1, 1, -1}}
	multiply(t, rows{m[0][:2], m[1][:2]}, rows{m[0][:2], m[1][:2]}, filled(2, 2, 2), api.OK)
	multiply(t, rows{m[0][:1], m[1][:2]}, unit(2, 1), nil, api.ErrBad)
}

// Elements at and beside the limits, at all places of both.
func TestTimesOfElements(t *testing.T) {
	for _, x := range []int64{-1, 0, 1, most - 1, most, most + 1, most + 2, 2 * most, -most, -most - 1, math.MaxInt64, math.MinInt64, math.MinInt64 + 1, 1 << 32, 1 << 49, 1 << 50, -1 << 32, 1 << 62, 1<<62 + 1, most + 1<<32} {
		fine := x >= 0 && x <= 1000000000000000
		for _, n := range []int{1, 2, 3, 12} {
			for i := range n {
				for k := range n {
					zero, one := filled(n, n, 0), unit(n, 1)
					m := changed(zero, i, k, x)
					if fine {
						multiply(t, m, one, m, api.OK)
						multiply(t, one, m, m, api.OK)
						multiply(t, m, zero, zero, api.OK)
						multiply(t, zero, m, zero, api.OK)
						continue
					}
					multiply(t, m, one, nil, api.ErrBad)
					multiply(t, one, m, nil, api.ErrBad)
					// A wrong element matters also where it only meets zeros.
					multiply(t, m, zero, nil, api.ErrBad)
					multiply(t, zero, m, nil, api.ErrBad)
					multiply(t, m, m, nil, api.ErrBad)
				}
			}
		}
	}
}

// Products of two elements at and beside the limit, and ones that do not fit an int64, or only seem to.
func TestTimesOfProducts(t *testing.T) {
	for _, c := range []struct{ x, y int64 }{
		{1, most}, {2, most / 2}, {5, most / 5}, {10, most / 10}, {31250, 32000000000}, {10000000, 100000000}, {31622776, 31622776}, {31622776, 31622777}, {7, 142857142857142}, {999999, 1000001000}, {999999999999999, 1}, {0, most}, {0, 0},
		// One more than MaxCount, and others that are a little greater.
		{7, 142857142857143}, {11, 90909090909091}, {13, 76923076923077}, {2161, 462748727441}, {9091, 109998900011}, {1, 1000000000000000}, {2, most/2 + 1}, {3, 333333333333334}, {31622777, 31622777}, {10000000, 100000001}, {10000001, 100000000}, {most - 1, 2}, {most, 2}, {most, most}, {most - 1, most - 1},
		// The product modulo 2^64, 2^63 or 2^32 is small.
		{1 << 32, 1 << 32}, {1 << 40, 1 << 40}, {1 << 31, 1 << 32}, {1 << 49, 1 << 49}, {1 << 16, 1 << 48}, {1 << 15, 1 << 48}, {1 << 48, 1 << 32}, {1<<32 + 1, 1<<32 - 1}, {274177, 67280421310721}, {641, 6700417}, {3 << 32, 1 << 32}, {1 << 33, 1 << 31}, {6074001000, 3037000500}, {3037000500, 3037000500}, {4294967296, 4294967297}, {most, 18447}, {most, 9224}, {922337203685478, 10001}, {922337203685478, 20000},
	} {
		for _, p := range [][2]int64{{c.x, c.y}, {c.y, c.x}} {
			x, y := p[0], p[1]
			want := api.ErrRange
			if x == 0 || y <= 1000000000000000/x {
				want = api.OK
			}
			for _, n := range []int{1, 2, 5, 12} {
				for i := range n {
					// Only the element in the row i and the column n - 1 - i is not zero.
					a, b := changed(filled(n, n, 0), i, (i+1)%n, x), changed(filled(n, n, 0), (i+1)%n, n-1-i, y)
					product := changed(filled(n, n, 0), i, n-1-i, x*y)
					if want != api.OK {
						product = nil
					}
					multiply(t, a, b, product, want)
				}
			}
		}
	}
}

// Sums of several products at and beside the limit.
func TestTimesOfSums(t *testing.T) {
	for n := 2; n <= 12; n++ {
		row := slices.Repeat([]int64{1}, n)
		all := func(first, last int64, want api.Errno) {
			t.Helper()
			column := slices.Clone(row)
			column[0], column[n-1] = first, last
			a, b := filled(n, n, 0), filled(n, n, 0)
			a[n/2] = slices.Clone(row)
			for i, x := range column {
				b[i][n/3] = x
			}
			total := first + last + int64(n) - 2
			if want == api.OK {
				multiply(t, a, b, changed(filled(n, n, 0), n/2, n/3, total), api.OK)
			} else {
				multiply(t, a, b, nil, want)
			}
		}
		rest := most - int64(n) + 2
		all(rest, 0, api.OK)
		all(0, rest, api.OK)
		all(rest-1, 1, api.OK)
		all(rest/2, rest-rest/2, api.OK)
		all(rest-1, 0, api.OK)
		if n > 2 { // Of two, an element would be too great itself.
			all(rest+1, 0, api.ErrRange)
			all(0, rest+1, api.ErrRange)
		}
		all(rest, 1, api.ErrRange)
		all(rest/2, rest-rest/2+1, api.ErrRange)
		all(rest/2+1, rest-rest/2, api.ErrRange)
		all(most-1, most-1, api.ErrRange)
		// Everything is as great as it may be, so that the sum is greater than 2^63 many times.
		multiply(t, filled(n, n, most), filled(n, n, most), nil, api.ErrRange)
		multiply(t, filled(n, n, most), filled(n, n, 1), nil, api.ErrRange)
		multiply(t, filled(n, n, most/int64(n)), filled(n, n, 1), filled(n, n, most/int64(n)*int64(n)), api.OK)
		multiply(t, filled(n, n, most/int64(n)+1), filled(n, n, 1), nil, api.ErrRange)
		multiply(t, filled(n, n, 1), filled(n, n, most/int64(n)+1), nil, api.ErrRange)
	}
	// Sums of products of 2^63, of which two are 2^64, of 2^62, and of 2^60.
	for _, n := range []int{2, 4, 8} {
		multiply(t, filled(n, n, 1<<31), filled(n, n, 1<<32), nil, api.ErrRange)
		multiply(t, filled(n, n, 1<<31), filled(n, n, 1<<31), nil, api.ErrRange)
		multiply(t, filled(n, n, 1<<30), filled(n, n, 1<<30), nil, api.ErrRange)
	}
	// A product alone is small enough, and so is each sum of two, but not that of all.
	multiply(t, rows{{3, 3, 3}, {0, 0, 0}, {0, 0, 0}}, filled(3, 3, 111111111111112), nil, api.ErrRange)
	multiply(t, rows{{3, 3, 3}, {0, 0, 0}, {0, 0, 0}}, filled(3, 3, 111111111111111), rows{{999999999999999, 999999999999999, 999999999999999}, {0, 0, 0}, {0, 0, 0}}, api.OK)
}

// A wrong matrix comes before a product that is too great, whichever of both it is.
func TestTimesOfSeveralErrors(t *testing.T) {
	for n := 2; n <= 12; n++ {
		great := filled(n, n, most)
		short := append(filled(n-1, n, most), filled(1, n-1, most)...)
		for _, m := range []rows{changed(great, n-1, n-1, -1), changed(great, n-1, n-1, most+1), changed(great, 0, n-1, math.MaxInt64), changed(great, n-1, 0, math.MinInt64), short, filled(n, n+1, most), filled(n-1, n, most), filled(n+1, n, most), filled(n+1, n+1, most), filled(n-1, n-1, most), filled(13, 13, most), nil} {
			multiply(t, great, m, nil, api.ErrBad)
			multiply(t, m, great, nil, api.ErrBad)
		}
	}
}

// someMatrix returns n rows of elements of up to as many digits.
func someMatrix(r *rand.Rand, n, digits int) rows {
	m := filled(n, n, 0)
	for i := range m {
		for k := range m[i] {
			if r.Intn(4) > 0 {
				m[i][k] = r.Int63n(int64(math.Pow10(r.Intn(digits) + 1)))
			}
		}
	}
	return m
}

// Many products, next to the definition in integers of any size.
func TestTimesOfManyMatrices(t *testing.T) {
	r := rand.New(rand.NewSource(113))
	counts := map[api.Errno]int{}
	for range 5000 {
		n := r.Intn(13)
		digits := 1 + r.Intn(15)
		a, b := someMatrix(r, n, digits), someMatrix(r, n, min(15, max(1, 13+r.Intn(6)-digits)))
		if n > 0 && r.Intn(10) == 0 {
			i, k, x := r.Intn(n), r.Intn(n), []int64{-1, most + 1, most, math.MaxInt64}[r.Intn(4)]
			if r.Intn(2) == 0 {
				a = changed(a, i, k, x)
			} else {
				b = changed(b, i, k, x)
			}
		}
		want, e := multiplied(a, b)
		multiply(t, a, b, want, e)
		counts[e]++
	}
	if counts[api.OK] < 1000 || counts[api.ErrRange] < 1000 || counts[api.ErrBad] < 200 {
		t.Error(counts)
	}
}

// The product of three is the same, whichever two come first.
func TestTimesOfThree(t *testing.T) {
	r := rand.New(rand.NewSource(114))
	for range 1000 {
		n := r.Intn(13)
		a, b, c := someMatrix(r, n, 4), someMatrix(r, n, 4), someMatrix(r, n, 4)
		ab, e := growth.Times(a, b)
		bc, f := growth.Times(b, c)
		left, g := growth.Times(ab, c)
		right, h := growth.Times(a, bc)
		if e != api.OK || f != api.OK || g != api.OK || !agree(left, g, right, h) {
			t.Fatal(a, b, c, left, right, e, f, g, h)
		}
		one := unit(n, 1)
		multiply(t, a, one, a, api.OK)
		multiply(t, one, a, a, api.OK)
	}
}
