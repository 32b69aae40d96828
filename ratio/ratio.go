// Package ratio is layer 1, exact ratios of integers that are small enough for their products to fit: see shared/doc/01-ratio.md.
package ratio

import (
	"cmp"

	"gambrel/api"
)

// Check returns ErrBad if a is not valid.
func Check(a api.Ratio) api.Errno {
	if a.Den < 1 || a.Den > api.MaxRatio || a.Num < -api.MaxRatio || a.Num > api.MaxRatio {
		return api.ErrBad
	}
	if divisor(magnitude(a.Num), magnitude(a.Den)) != 1 {
		return api.ErrBad
	}
	return api.OK
}

// Make returns the ratio of num / den.
func Make(num, den int64) (api.Ratio, api.Errno) {
	return calculate(func(c *calculation) api.Ratio {
		return c.reduce(num, den)
	})
}

// Add returns the ratio of a + b.
func Add(a, b api.Ratio) (api.Ratio, api.Errno) {
	return calculate(func(c *calculation) api.Ratio {
		return c.reduce(a.Num*b.Den+b.Num*a.Den, a.Den*b.Den)
	}, a, b)
}

// Sub returns the ratio of a - b.
func Sub(a, b api.Ratio) (api.Ratio, api.Errno) {
	return calculate(func(c *calculation) api.Ratio {
		return c.reduce(a.Num*b.Den-b.Num*a.Den, a.Den*b.Den)
	}, a, b)
}

// Mul returns the ratio of a * b.
func Mul(a, b api.Ratio) (api.Ratio, api.Errno) {
	return calculate(func(c *calculation) api.Ratio {
		return c.reduce(a.Num*b.Num, a.Den*b.Den)
	}, a, b)
}

// Div returns the ratio of a / b.
func Div(a, b api.Ratio) (api.Ratio, api.Errno) {
	return calculate(func(c *calculation) api.Ratio {
		return c.reduce(a.Num*b.Den, a.Den*b.Num)
	}, a, b)
}

// Neg returns the ratio of -a.
func Neg(a api.Ratio) (api.Ratio, api.Errno) {
	return calculate(func(c *calculation) api.Ratio {
		return api.Ratio{Num: -a.Num, Den: a.Den}
	}, a)
}

// Cmp returns -1 if a is less than b, 1 if it is greater, and 0 if both are equal.
func Cmp(a, b api.Ratio) (int, api.Errno) {
	return calculate(func(c *calculation) int {
		return cmp.Compare(a.Num*b.Den, b.Num*a.Den)
	}, a, b)
}

// Floor returns the greatest integer that is not greater than a.
func Floor(a api.Ratio) (int64, api.Errno) {
	return calculate(func(c *calculation) int64 {
		return floor(a)
	}, a)
}

// Ceil returns the least integer that is not less than a.
func Ceil(a api.Ratio) (int64, api.Errno) {
	return calculate(func(c *calculation) int64 {
		return -floor(api.Ratio{Num: -a.Num, Den: a.Den})
	}, a)
}

// Sum adds the elements of l to 0, from first to last.
func Sum(l []api.Ratio) (api.Ratio, api.Errno) {
	return calculate(func(c *calculation) api.Ratio {
		total := api.Ratio{Den: 1}
		if len(l) > api.MaxSum {
			c.keep(api.ErrMany)
			return total
		}
		for _, a := range l {
			next, e := Add(total, a)
			if e != api.OK {
				c.keep(e)
				break
			}
			total = next
		}
		return total
	})
}

func floor(a api.Ratio) int64 {
	quotient := a.Num / a.Den
	if a.Num%a.Den < 0 {
		// Go rounds towards 0.
		quotient--
	}
	return quotient
}
