package ratio_test

import (
	"math"
	"math/big"
	"slices"
	"testing"

	"gambrel/api"
	"gambrel/ratio"
)

const limit = api.MaxRatio

type number = api.Ratio

// of returns the fraction num / den as it is, valid or not.
func of(num, den int64) number {
	return number{Num: num, Den: den}
}

type operation struct {
	name  string
	call  func(a, b number) (number, api.Errno)
	exact func(z, x, y *big.Rat) *big.Rat
}

func operations() []operation {
	return []operation{
		{"Add", ratio.Add, (*big.Rat).Add},
		{"Sub", ratio.Sub, (*big.Rat).Sub},
		{"Mul", ratio.Mul, (*big.Rat).Mul},
		{"Div", ratio.Div, (*big.Rat).Quo},
	}
}

// valid returns ratios that are valid: small ones, and ones at and near the limits, of both signs.
func valid() []number {
	positive := []number{
		of(1, 1), of(2, 1), of(1, 2), of(3, 2), of(2, 3), of(5, 6), of(7, 2), of(1, 9), of(12, 35),
		of(limit, 1), of(limit-1, 1), of(1, limit), of(1, limit-1),
		of(limit, limit-1), of(limit-1, limit), of(limit, 3), of(3, limit),
		of(31622, 1), of(31623, 1), of(1, 31622), of(1, 31623), of(500000000, 1), of(500000001, 1), of(1, 500000000),
	}
	list := []number{of(0, 1)}
	for _, a := range positive {
		list = append(list, a, of(-a.Num, a.Den))
	}
	return list
}

func invalid() []number {
	return []number{
		{}, of(1, 0), of(0, 2), of(0, -1), of(0, limit), of(2, 2), of(2, 4), of(-2, 4), of(6, 3), of(limit, limit), of(-limit, limit),
		of(1, -1), of(-1, -1), of(3, -2), of(1, limit+1), of(1, math.MaxInt64), of(1, math.MinInt64),
		of(limit+1, 1), of(-limit-1, 1), of(math.MaxInt64, 1), of(math.MinInt64, 1), of(math.MinInt64, math.MinInt64), of(math.MinInt64, math.MaxInt64),
	}
}

func exact(a number) *big.Rat {
	return big.NewRat(a.Num, a.Den)
}

// ratioOf returns the ratio of r, or ErrRange.
func ratioOf(r *big.Rat) (number, api.Errno) {
	most := big.NewInt(limit)
	if r.Num().CmpAbs(most) > 0 || r.Denom().Cmp(most) > 0 {
		return number{}, api.ErrRange
	}
	return of(r.Num().Int64(), r.Denom().Int64()), api.OK
}

func TestCheck(t *testing.T) {
	for _, a := range valid() {
		if e := ratio.Check(a); e != api.OK {
			t.Error(a, e)
		}
	}
	for _, a := range invalid() {
		if e := ratio.Check(a); e != api.ErrBad {
			t.Error(a, e)
		}
	}
}

func TestCheckOfAllSmallRatios(t *testing.T) {
	for num := int64(-12); num <= 12; num++ {
		for den := int64(-12); den <= 12; den++ {
			want := api.ErrBad
			if den > 0 && new(big.Int).GCD(nil, nil, big.NewInt(max(num, -num)), big.NewInt(den)).Int64() == 1 {
				want = api.OK
			}
			if e := ratio.Check(of(num, den)); e != want {
				t.Error(num, den, e)
			}
		}
	}
}

func TestMake(t *testing.T) {
	for _, c := range []struct {
		num, den int64
		want     number
		fault    api.Errno
	}{
		{6, -4, of(-3, 2), api.OK},
		{-6, -4, of(3, 2), api.OK},
		{-6, 4, of(-3, 2), api.OK},
		{0, -7, of(0, 1), api.OK},
		{0, math.MinInt64, of(0, 1), api.OK},
		{limit, 1, of(limit, 1), api.OK},
		{-limit, 1, of(-limit, 1), api.OK},
		{1, -limit, of(-1, limit), api.OK},
		{limit + 1, 1, number{}, api.ErrRange},
		{-limit - 1, 1, number{}, api.ErrRange},
		{1, limit + 1, number{}, api.ErrRange},
		{limit + 1, limit + 1, of(1, 1), api.OK},
		{2 * limit, -2, of(-limit, 1), api.OK},
		{math.MinInt64, math.MinInt64, of(1, 1), api.OK},
		{math.MinInt64, 1 << 62, of(-2, 1), api.OK},
		{1 << 62, math.MinInt64, of(-1, 2), api.OK},
		{math.MinInt64, -1, number{}, api.ErrRange},
		{math.MinInt64, 1, number{}, api.ErrRange},
		{-1, math.MinInt64, number{}, api.ErrRange},
		{math.MaxInt64, math.MinInt64, number{}, api.ErrRange},
		{math.MaxInt64, -math.MaxInt64, of(-1, 1), api.OK},
		{0, 0, number{}, api.ErrZero},
		{5, 0, number{}, api.ErrZero},
		{math.MinInt64, 0, number{}, api.ErrZero},
	} {
		if got, e := ratio.Make(c.num, c.den); got != c.want || e != c.fault {
			t.Error(c, got, e)
		}
	}
}

func TestMakeIsExact(t *testing.T) {
	ends := []int64{math.MinInt64, math.MinInt64 + 1, -limit * limit, -limit - 1, -limit, -360, -7, -1, 0, 1, 6, 100, limit - 1, limit, limit + 1, 2 * limit, limit * limit, math.MaxInt64}
	for _, num := range ends {
		for _, den := range ends {
			got, e := ratio.Make(num, den)
			if den == 0 {
				if got != (number{}) || e != api.ErrZero {
					t.Error(num, den, got, e)
				}
				continue
			}
			want, fault := ratioOf(big.NewRat(num, den))
			if got != want || e != fault {
				t.Error(num, den, got, e)
			}
		}
	}
}

func TestExamples(t *testing.T) {
	half, third := of(1, 2), of(1, 3)
	wants := []number{of(5, 6), of(1, 6), of(1, 6), of(3, 2)}
	for i, o := range operations() {
		if got, e := o.call(half, third); got != wants[i] || e != api.OK {
			t.Error(o.name, got, e)
		}
	}
	if got, e := ratio.Add(of(1, 1000000000), of(1, 999999999)); got != (number{}) || e != api.ErrRange {
		t.Error(got, e)
	}
}

func TestOperationsAreExact(t *testing.T) {
	for _, o := range operations() {
		for _, a := range valid() {
			for _, b := range valid() {
				got, e := o.call(a, b)
				if o.name == "Div" && b.Num == 0 {
					if got != (number{}) || e != api.ErrZero {
						t.Error(a, "Div 0", got, e)
					}
					continue
				}
				want, fault := ratioOf(o.exact(new(big.Rat), exact(a), exact(b)))
				if got != want || e != fault {
					t.Error(o.name, a, b, got, e)
				}
			}
		}
	}
}

func TestNeg(t *testing.T) {
	for _, a := range valid() {
		if got, e := ratio.Neg(a); got != (of(-a.Num, a.Den)) || e != api.OK {
			t.Error(a, got, e)
		}
	}
}

func TestCmp(t *testing.T) {
	for _, a := range valid() {
		for _, b := range valid() {
			if got, e := ratio.Cmp(a, b); got != exact(a).Cmp(exact(b)) || e != api.OK {
				t.Error(a, b, got, e)
			}
		}
	}
}

func TestFloorAndCeil(t *testing.T) {
	for _, c := range []struct {
		a         number
		low, high int64
	}{
		{of(-7, 2), -4, -3}, {of(7, 2), 3, 4}, {of(0, 1), 0, 0},
		{of(3, 1), 3, 3}, {of(-3, 1), -3, -3},
		{of(1, limit), 0, 1}, {of(-1, limit), -1, 0},
		{of(limit, 1), limit, limit}, {of(-limit, 1), -limit, -limit},
		{of(limit, 3), 333333333, 333333334}, {of(-limit, 3), -333333334, -333333333},
		{of(limit-1, limit), 0, 1}, {of(1-limit, limit), -1, 0},
	} {
		low, e := ratio.Floor(c.a)
		high, f := ratio.Ceil(c.a)
		if low != c.low || high != c.high || e != api.OK || f != api.OK {
			t.Error(c, low, e, high, f)
		}
	}
}

func TestSum(t *testing.T) {
	greatest, least, bad := of(limit, 1), of(-limit, 1), of(2, 2)
	for _, c := range []struct {
		list  []number
		want  number
		fault api.Errno
	}{
		{nil, of(0, 1), api.OK},
		{[]number{}, of(0, 1), api.OK},
		{[]number{of(-3, 2)}, of(-3, 2), api.OK},
		{[]number{of(1, 2), of(1, 3), of(1, 6)}, of(1, 1), api.OK},
		{[]number{of(1, limit), of(-1, limit)}, of(0, 1), api.OK},
		{[]number{greatest, least, greatest}, greatest, api.OK},
		{[]number{greatest, greatest, least}, number{}, api.ErrRange},
		{[]number{of(1, limit), of(1, limit-1)}, number{}, api.ErrRange},
		{[]number{bad}, number{}, api.ErrBad},
		{[]number{{}}, number{}, api.ErrBad},
		{[]number{of(1, 2), bad}, number{}, api.ErrBad},
		{[]number{greatest, greatest, bad}, number{}, api.ErrRange},
		{[]number{greatest, bad, greatest}, number{}, api.ErrBad},
		{slices.Repeat([]number{of(1, 2)}, api.MaxSum), of(100, 1), api.OK},
		{slices.Repeat([]number{of(1, 2)}, api.MaxSum+1), number{}, api.ErrMany},
		{slices.Repeat([]number{bad}, api.MaxSum), number{}, api.ErrBad},
		{slices.Repeat([]number{bad}, api.MaxSum+1), number{}, api.ErrMany},
		{slices.Repeat([]number{greatest}, api.MaxSum+1), number{}, api.ErrMany},
	} {
		if got, e := ratio.Sum(c.list); got != c.want || e != c.fault {
			t.Error(len(c.list), c.want, got, e)
		}
	}
}

func TestSumLeavesItsArgument(t *testing.T) {
	list := valid()
	whole := slices.Clone(list)
	first, e := ratio.Sum(list[:3])
	second, f := ratio.Sum(list[:3])
	if first != second || e != f || !slices.Equal(list, whole) {
		t.Error(first, e, second, f, list)
	}
}

func TestInvalidOperands(t *testing.T) {
	for _, bad := range invalid() {
		// What would be an error of the operation itself comes after Check's.
		for _, other := range []number{of(1, 2), of(0, 1), of(limit, 1), of(1, limit), bad} {
			for _, pair := range [][2]number{{bad, other}, {other, bad}} {
				for _, o := range operations() {
					if got, e := o.call(pair[0], pair[1]); got != (number{}) || e != api.ErrBad {
						t.Error(o.name, pair, got, e)
					}
				}
				if got, e := ratio.Cmp(pair[0], pair[1]); got != 0 || e != api.ErrBad {
					t.Error("Cmp", pair, got, e)
				}
			}
		}
		if got, e := ratio.Neg(bad); got != (number{}) || e != api.ErrBad {
			t.Error("Neg", bad, got, e)
		}
		if got, e := ratio.Floor(bad); got != 0 || e != api.ErrBad {
			t.Error("Floor", bad, got, e)
		}
		if got, e := ratio.Ceil(bad); got != 0 || e != api.ErrBad {
			t.Error("Ceil", bad, got, e)
		}
		if got, e := ratio.Text(bad); got != "" || e != api.ErrBad {
			t.Error("Text", bad, got, e)
		}
	}
}
