package ratio

import "gambrel/api"

// calculation keeps the first error of a calculation, so that its steps need not hand it on.
type calculation struct {
	fault api.Errno
}

func (c *calculation) keep(e api.Errno) {
	if c.fault == api.OK {
		c.fault = e
	}
}

// reduce returns the ratio of num / den, and keeps an error if there is none.
func (c *calculation) reduce(num, den int64) api.Ratio {
	if den == 0 {
		c.keep(api.ErrZero)
		return api.Ratio{}
	}
	n, d := magnitude(num), magnitude(den)
	common := divisor(n, d)
	n, d = n/common, d/common
	if n > uint64(api.MaxRatio) || d > uint64(api.MaxRatio) {
		c.keep(api.ErrRange)
		return api.Ratio{}
	}
	if (num < 0) != (den < 0) {
		return api.Ratio{Num: -int64(n), Den: int64(d)}
	}
	return api.Ratio{Num: int64(n), Den: int64(d)}
}

// calculate returns what step returns, if no operand and no step has an error. Operands that are not valid never reach step, which may divide by their parts.
func calculate[T any](step func(c *calculation) T, operands ...api.Ratio) (result T, fault api.Errno) {
	var c calculation
	defer func() {
		fault = c.fault
		if fault != api.OK {
			var zero T
			result = zero
		}
	}()
	for _, a := range operands {
		c.keep(Check(a))
	}
	if c.fault == api.OK {
		result = step(&c)
	}
	return
}

// magnitude returns the absolute value of x, which for the least int64 fits into no int64.
func magnitude(x int64) uint64 {
	if x < 0 {
		return -uint64(x)
	}
	return uint64(x)
}

// divisor returns the greatest common divisor of a and b, and the other one if one is 0.
func divisor(a, b uint64) uint64 {
	for b != 0 {
		a, b = b, a%b
	}
	return a
}
