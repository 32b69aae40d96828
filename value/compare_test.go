package value_test

import (
	"cmp"
	"math/big"
	"strings"
	"testing"

	"gambrel/api"
	"gambrel/value"
)

// order compares two valid values without the program.
func order(a, b val) (int, api.Errno) {
	if a.Kind != b.Kind {
		return 0, api.ErrKind
	}
	switch a.Kind {
	case api.KindNumber:
		return big.NewRat(a.Num.Num, a.Num.Den).Cmp(big.NewRat(b.Num.Num, b.Num.Den)), api.OK
	case api.KindTruth:
		place := map[bool]int{false: 0, true: 1}
		return cmp.Compare(place[a.Truth], place[b.Truth]), api.OK
	case api.KindString:
		return strings.Compare(a.Str, b.Str), api.OK
	}
	for i := 0; i < len(a.List) && i < len(b.List); i++ {
		if !identical(a.List[i], b.List[i]) {
			return order(a.List[i], b.List[i])
		}
	}
	return cmp.Compare(len(a.List), len(b.List)), api.OK
}

func TestCompare(t *testing.T) {
	one, two, three, five := whole(1), whole(2), whole(3), whole(5)
	for _, c := range []struct {
		a, b  val
		want  int
		fault api.Errno
	}{
		{one, one, 0, api.OK},
		{one, two, -1, api.OK},
		{two, whole(10), -1, api.OK},
		{num(1, 2), num(1, 3), 1, api.OK},
		{whole(-1), num(-1, 2), -1, api.OK},
		{truth(false), truth(true), -1, api.OK},
		{truth(true), truth(true), 0, api.OK},
		{truth(false), truth(false), 0, api.OK},
		{str(""), str(" "), -1, api.OK},
		{str("B"), str("a"), -1, api.OK},
		{str("10"), str("2"), -1, api.OK},
		{str("a"), str("ab"), -1, api.OK},
		{str("abc"), str("abc"), 0, api.OK},
		{list(), list(), 0, api.OK},
		{val{Kind: api.KindList, List: []val{}}, val{Kind: api.KindList}, 0, api.OK},
		{list(), list(list()), -1, api.OK},
		{list(one, two), list(one, three), -1, api.OK},
		{list(one, two), list(one), 1, api.OK},
		{list(two, truth(true)), list(one, five), 1, api.OK},
		{list(two), list(one, five), 1, api.OK},
		{list(one, five, five), list(two), -1, api.OK},
		{list(list(one), two), list(list(one), three), -1, api.OK},
		{list(list(one, one), two), list(list(one), three), 1, api.OK},
		{list(list(truth(true)), one), list(list(truth(false)), str("1")), 1, api.OK},
		{list(str("a"), one), list(str("a"), one, truth(true)), -1, api.OK},
		{one, str("1"), 0, api.ErrKind},
		{one, truth(true), 0, api.ErrKind},
		{one, list(one), 0, api.ErrKind},
		{str(""), list(), 0, api.ErrKind},
		{truth(false), str("false"), 0, api.ErrKind},
		{list(one), list(str("1")), 0, api.ErrKind},
		{list(list(one)), list(list(str("1"))), 0, api.ErrKind},
		{list(one, one), list(one, truth(true), two), 0, api.ErrKind},
		{list(list(one), one), list(list(list()), two), 0, api.ErrKind},
		{list(list()), list(one), 0, api.ErrKind},
		{list(list(two), one), list(list(one), str("1")), 1, api.OK},
	} {
		if n, e := value.Compare(c.a, c.b); n != c.want || e != c.fault {
			t.Error(show(c.a, c.b), n, e)
		}
	}
}

func TestCompareOfAllPairs(t *testing.T) {
	for _, a := range good() {
		for _, b := range good() {
			want, fault := order(a, b)
			if n, e := value.Compare(a, b); n != want || e != fault {
				t.Error(show(a, b), n, e)
			}
		}
	}
}
