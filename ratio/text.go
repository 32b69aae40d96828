package ratio

import (
	"strconv"
	"strings"

	"gambrel/api"
)

// Text returns the text of a.
func Text(a api.Ratio) (string, api.Errno) {
	return calculate(func(c *calculation) string {
		text := strconv.FormatInt(a.Num, 10)
		if a.Den != 1 {
			text += "/" + strconv.FormatInt(a.Den, 10)
		}
		return text
	}, a)
}

// Parse returns the valid ratio whose text is s.
func Parse(s string) (api.Ratio, api.Errno) {
	return calculate(func(c *calculation) api.Ratio {
		a := loose(s)
		// A ratio has one text, so that whatever was read is right if it is written the same, and s is no text otherwise.
		if text, e := Text(a); e != api.OK || text != s {
			c.keep(api.ErrForm)
		}
		return a
	})
}

// loose reads a numerator and perhaps a denominator. It makes some fraction of any other string, too.
func loose(s string) api.Ratio {
	above, below, divided := strings.Cut(s, "/")
	above, negative := strings.CutPrefix(above, "-")
	a := api.Ratio{Num: number(above), Den: 1}
	if negative {
		a.Num = -a.Num
	}
	if divided {
		a.Den = number(below)
	}
	return a
}

// number returns the number with the digits s. What is no digit or does not fit gives some number, too.
func number(s string) int64 {
	var n int64
	for _, digit := range s {
		n = n*10 + int64(digit-'0')
	}
	return n
}
