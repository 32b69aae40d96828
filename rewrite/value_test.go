package rewrite_test

import (
	"math"
	"math/rand"
	"slices"
	"testing"

	"gambrel/api"
	"gambrel/rewrite"
)

// top is the greatest argument, and the greatest value.
const top = 1000000000

func TestValue(t *testing.T) {
	for _, c := range []struct {
		f    form
		args []int
		want int
	}{
		{sum(0), nil, 0}, {sum(5), nil, 5}, {sum(-5), []int{}, -5}, {form{Const: 1, Coefs: []int{}}, nil, 1}, {sum(1000000), nil, 1000000}, {sum(-1000000), nil, -1000000},
		{sum(0, 1), []int{7}, 7}, {sum(0, -1), []int{7}, -7}, {sum(-1, 1), []int{2}, 1}, {sum(3, 2), []int{5}, 13}, {sum(3, 0), []int{5}, 3}, {sum(3, 2), []int{0}, 3},
		{sum(1, 10, 100), []int{2, 3}, 321}, {sum(1, 10, 100, 1000), []int{2, 3, 4}, 4321}, {sum(1, 10, 100, 1000, 10000), []int{2, 3, 4, 5}, 54321}, {sum(-1, -10, 100, -1000, 10000), []int{2, 3, 4, -5}, -53721},
		{sum(0, 1), []int{top}, top}, {sum(0, 1), []int{-top}, -top}, {sum(0, -1), []int{top}, -top}, {sum(0, -1), []int{-top}, top}, {sum(-1, 1), []int{top}, top - 1}, {sum(1, 1), []int{-top}, 1 - top},
		{sum(0, 1000000), []int{1000}, top}, {sum(0, 1000000), []int{-1000}, -top}, {sum(0, -1000000), []int{1000}, -top}, {sum(1000000, 1000000), []int{999}, top}, {sum(0, 1, 1, 1, 1), []int{250000000, 250000000, 250000000, 250000000}, top},
		{sum(0, 1, 1), []int{top, -top}, 0}, {sum(0, 1000000, -1000000), []int{top, top}, 0}, {sum(1, 1, 1), []int{top, -1}, top}, {sum(-1, 1, 1), []int{-top, 1}, -top}, {sum(1000000, 1), []int{top - 1000000}, top}, {sum(-1000000, 1), []int{-top + 1000000}, -top},
		{sum(1, 1, 1, -1, -1), []int{top, top, top, top}, 1}, {sum(0, 1000000, 1000000, -1000000, -1000000), []int{top, top, top, top - 1000}, top}, {sum(0, -1000000, -1000000, 1000000, 1000000), []int{top, top, top, top - 1000}, -top},
		{sum(0, 0, 0, 0, 0), []int{top, -top, top, -top}, 0}, {sum(1, 1), []int{-1}, 0},
	} {
		if v, e := rewrite.Value(c.f, c.args); v != c.want || e != api.OK {
			t.Error(c.f, c.args, v, e)
		}
	}
}

func TestValueOutOfRange(t *testing.T) {
	for _, c := range []struct {
		f    form
		args []int
	}{
		{sum(1, 1), []int{top}}, {sum(-1, 1), []int{-top}}, {sum(-1, -1), []int{top}}, {sum(1, -1), []int{-top}}, {sum(1, 1000000), []int{1000}}, {sum(-1, 1000000), []int{-1000}}, {sum(0, 2), []int{top/2 + 1}}, {sum(0, 2), []int{-top/2 - 1}},
		{sum(0, 1000000), []int{1001}}, {sum(0, 1000000), []int{top}}, {sum(0, 1000000), []int{-top}}, {sum(0, -1000000), []int{top}}, {sum(0, 1, 1), []int{top, 1}}, {sum(0, 1, 1), []int{1, top}}, {sum(0, 1, 1), []int{-1, -top}},
		{sum(1000000, 1000000, 1000000, 1000000, 1000000), []int{top, top, top, top}}, {sum(-1000000, -1000000, -1000000, -1000000, -1000000), []int{top, top, top, top}}, {sum(1, 1, 1, 1, 1), []int{250000000, 250000000, 250000000, 250000000}}, {sum(1, 1, 1, -1, 0), []int{top, top, top, top}},
		// Of these, 32 bits hold a value in range.
		{sum(0, 1<<16), []int{1 << 16}}, {sum(5, 1<<16), []int{1 << 16}}, {sum(0, 1<<16), []int{-1 << 16}}, {sum(7, 1<<18, 1<<18), []int{1 << 28, 1 << 28}},
	} {
		if v, e := rewrite.Value(c.f, c.args); v != 0 || e != api.ErrRange {
			t.Error(c.f, c.args, v, e)
		}
	}
}

// Values at the limits, for all numbers of arguments and all places that a number may have.
func TestValueAtTheLimits(t *testing.T) {
	for n := 1; n <= 4; n++ {
		for at := range n {
			for _, sign := range []int{1, -1} {
				for _, coef := range []int{1, -1} {
					for _, constant := range []int{-2, -1, 0, 1, 2} {
						f, args := sum(constant, make([]int, n)...), slices.Repeat([]int{3}, n)
						f.Coefs[at], args[at] = coef, sign*top
						exact := constant + coef*sign*top
						v, e := rewrite.Value(f, args)
						if exact >= -top && exact <= top && (v != exact || e != api.OK) || (exact < -top || exact > top) && (v != 0 || e != api.ErrRange) {
							t.Error(f, args, v, e)
						}
					}
				}
			}
		}
	}
}

func TestValueOfWrongForms(t *testing.T) {
	for n := range 5 {
		for _, f := range wrongForms(n) {
			for _, args := range [][]int{make([]int, n), slices.Repeat([]int{top}, n), slices.Repeat([]int{-1}, n)} {
				if v, e := rewrite.Value(f, args); v != 0 || e != api.ErrBad {
					t.Error(f, args, v, e)
				}
			}
		}
	}
	for _, c := range []struct {
		f    form
		args []int
	}{{sum(0), []int{1}}, {sum(0), []int{0, 0}}, {sum(0, 1), nil}, {sum(0, 1), []int{}}, {sum(0, 0), nil}, {sum(0, 1), []int{1, 1}}, {sum(0, 1, 1), []int{1}}, {sum(0, 1, 1, 1, 1, 1), []int{1, 1, 1, 1}}, {sum(1000001), nil}, {sum(-1000001), nil}, {sum(0, 1000001), []int{0}}, {sum(0, -1000001), []int{1}}, {sum(math.MinInt), nil}, {sum(math.MaxInt, math.MinInt), []int{top}}} {
		if v, e := rewrite.Value(c.f, c.args); v != 0 || e != api.ErrBad {
			t.Error(c.f, c.args, v, e)
		}
	}
}

func TestValueOfArgs(t *testing.T) {
	for n := range 5 {
		fine := sum(4, make([]int, n)...)
		for at := range n {
			for _, arg := range beside(api.MaxArg) {
				args := make([]int, n)
				args[at] = arg
				for _, coef := range []int{0, 1, 1000000} {
					f := sum(4, make([]int, n)...)
					f.Coefs[at] = coef
					if v, e := rewrite.Value(f, args); v != 0 || e != api.ErrBad {
						t.Error(f, args, v, e)
					}
				}
			}
			for _, arg := range []int{top, -top, top - 1, 1 - top, 0} {
				args := make([]int, n)
				args[at] = arg
				if v, e := rewrite.Value(fine, args); v != 4 || e != api.OK {
					t.Error(fine, args, v, e)
				}
			}
		}
		if v, e := rewrite.Value(fine, make([]int, n)); v != 4 || e != api.OK {
			t.Error(n, v, e)
		}
	}
	for _, n := range []int{5, 6, 7, 8, 256, 257, 260, 100000} {
		for _, f := range []form{sum(4), sum(4, make([]int, 4)...), sum(4, make([]int, n)...), sum(4, make([]int, n-1)...)} {
			if v, e := rewrite.Value(f, make([]int, n)); v != 0 || e != api.ErrBad {
				t.Error(n, len(f.Coefs), v, e)
			}
		}
	}
}

// What is not valid comes before a value that is out of range.
func TestValueOfSeveralErrors(t *testing.T) {
	for _, c := range []struct {
		f    form
		args []int
	}{{sum(0, 1000000), []int{top + 1}}, {sum(0, 1), []int{top + 1}}, {sum(0, 1), []int{-top - 1}}, {sum(1, 1, 1), []int{top, top + 1}}, {sum(1000001, 1), []int{top}}, {sum(0, 1000001), []int{top}}, {sum(0, 1, 1, 1, 1, 1), []int{top, top, top, top, top}}, {sum(0, 1000000, 1), []int{top}}, {sum(0, 1000000), []int{top, top}}, {sum(0, math.MaxInt), []int{math.MaxInt}}} {
		if v, e := rewrite.Value(c.f, c.args); v != 0 || e != api.ErrBad {
			t.Error(c.f, c.args, v, e)
		}
	}
}

func TestValueOfManyForms(t *testing.T) {
	r := rand.New(rand.NewSource(70))
	counts := map[api.Errno]int{}
	number := func(most int) int {
		switch r.Intn(8) {
		case 0:
			return most + r.Intn(3) - 1
		case 1:
			return -most + r.Intn(3) - 1
		case 2:
			return r.Intn(3) - 1
		default:
			few := max(1, most/(1<<r.Intn(20)))
			return r.Intn(2*few+1) - few
		}
	}
	for range 100000 {
		f, args := sum(number(api.MaxCoef)), []int(nil)
		for range r.Intn(5) {
			f.Coefs = append(f.Coefs, number(api.MaxCoef))
			args = append(args, number(api.MaxArg))
		}
		v, e := rewrite.Value(f, args)
		want, wantError := valued(f, args)
		if v != want || e != wantError {
			t.Fatal(f, args, v, e, want, wantError)
		}
		counts[e]++
	}
	if counts[api.OK] < 10000 || counts[api.ErrRange] < 10000 || counts[api.ErrBad] < 1000 {
		t.Error(counts)
	}
}
