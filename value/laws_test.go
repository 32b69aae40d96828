package value_test

import (
	"testing"

	"gambrel/api"
	"gambrel/value"
)

func TestParseOfTextIsTheValue(t *testing.T) {
	for _, v := range good() {
		text, e := value.Text(v)
		back, f := value.Parse(text)
		if e != api.OK || !is(back, f, v) {
			t.Error(show(v, back), text, e, f)
		}
	}
}

func TestComparisonTurnsAroundAndIsZeroForTheSame(t *testing.T) {
	for _, a := range good() {
		for _, b := range good() {
			n, e := value.Compare(a, b)
			m, f := value.Compare(b, a)
			if n != -m || e != f || (e == api.OK && n == 0) != value.Same(a, b) {
				t.Error(show(a, b), n, e, m, f)
			}
		}
	}
}

func TestComparisonIsTransitive(t *testing.T) {
	values := good()
	before := make([][]bool, len(values))
	wrong := make([][]bool, len(values))
	for i, a := range values {
		before[i], wrong[i] = make([]bool, len(values)), make([]bool, len(values))
		for j, b := range values {
			n, e := value.Compare(a, b)
			before[i][j], wrong[i][j] = n < 0, e != api.OK
		}
	}
	for i := range values {
		for j := range values {
			for k := range values {
				if before[i][j] && before[j][k] && !before[i][k] && !wrong[i][k] {
					t.Error(show(values[i], values[j], values[k]))
				}
			}
		}
	}
}

func TestLengthsAddUp(t *testing.T) {
	length := func(v val) int {
		n, e := value.Len(v)
		if e != api.OK {
			t.Error(show(v), e)
		}
		return n
	}
	sums := 0
	for _, a := range good() {
		for _, b := range good() {
			sum, e := value.Add(a, b)
			if e != api.OK || sum.Kind == api.KindNumber {
				continue
			}
			sums++
			n := length(a)
			if length(sum) != n+length(b) || value.Check(sum) != api.OK {
				t.Error(show(a, b, sum))
			}
			for i := range length(sum) {
				got, e := value.At(sum, i)
				want, f := value.At(a, i)
				if i >= n {
					want, f = value.At(b, i-n)
				}
				if f != api.OK || !is(got, e, want) {
					t.Error(show(a, b, got, want), i, e, f)
				}
			}
		}
	}
	if sums < 1000 {
		t.Error(sums)
	}
}
