package ratio_test

import (
	"testing"

	"gambrel/api"
	"gambrel/ratio"
)

func TestSumsAndProductsInAnyOrder(t *testing.T) {
	for _, call := range []func(a, b number) (number, api.Errno){ratio.Add, ratio.Mul} {
		for _, a := range valid() {
			for _, b := range valid() {
				one, e := call(a, b)
				two, f := call(b, a)
				if one != two || e != f {
					t.Error(a, b, one, e, two, f)
				}
			}
		}
	}
}

func TestDifferenceAddedAndQuotientMultiplied(t *testing.T) {
	for _, a := range valid() {
		for _, b := range valid() {
			if d, e := ratio.Sub(a, b); e == api.OK {
				if back, f := ratio.Add(d, b); back != a || f != api.OK {
					t.Error(a, b, d, back, f)
				}
			}
			if q, e := ratio.Div(a, b); e == api.OK {
				if back, f := ratio.Mul(q, b); back != a || f != api.OK {
					t.Error(a, b, q, back, f)
				}
			}
		}
	}
}

func TestComparisonIsThatOfTheDifference(t *testing.T) {
	for _, a := range valid() {
		for _, b := range valid() {
			order, e := ratio.Cmp(a, b)
			d, f := ratio.Sub(a, b)
			if e != api.OK || f != api.OK && f != api.ErrRange {
				t.Error(a, b, e, f)
			}
			if f != api.OK {
				continue
			}
			if sign, g := ratio.Cmp(d, of(0, 1)); sign != order || g != api.OK {
				t.Error(a, b, order, d, sign, g)
			}
		}
	}
}

func TestParseOfTextIsTheRatio(t *testing.T) {
	for _, a := range valid() {
		text, e := ratio.Text(a)
		back, f := ratio.Parse(text)
		if back != a || e != api.OK || f != api.OK {
			t.Error(a, text, e, back, f)
		}
	}
}
