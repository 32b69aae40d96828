package value_test

import (
	"fmt"
	"math"
	"slices"
	"strings"

	"gambrel/api"
)

type val = api.Value

func num(n, d int64) val {
	return val{Kind: api.KindNumber, Num: api.Ratio{Num: n, Den: d}}
}

func whole(n int64) val {
	return num(n, 1)
}

func truth(b bool) val {
	return val{Kind: api.KindTruth, Truth: b}
}

func str(s string) val {
	return val{Kind: api.KindString, Str: s}
}

func list(elements ...val) val {
	return val{Kind: api.KindList, List: elements}
}

// times returns a list of n times the same element.
func times(element val, n int) val {
	return list(slices.Repeat([]val{element}, n)...)
}

// within puts v into so many lists, one in the other.
func within(v val, lists int) val {
	for range lists {
		v = list(v)
	}
	return v
}

func long(n int) string {
	return strings.Repeat("x", n)
}

// endless returns a list that contains itself.
func endless() val {
	v := list(whole(1), val{})
	v.List[1] = v
	return v
}

// show writes values for messages, of large ones only a part, as a list may contain itself.
func show(values ...val) string {
	return fmt.Sprintf("%.200s", sketch(values, 8))
}

func sketch(values []val, levels int) string {
	s := ""
	for _, v := range values[:min(len(values), 12)] {
		s += fmt.Sprintf(" {%d %d/%d %v %.20q", v.Kind, v.Num.Num, v.Num.Den, v.Truth, v.Str)
		if len(v.List) > 0 && levels > 0 {
			s += fmt.Sprintf(" %d:%s", len(v.List), sketch(v.List, levels-1))
		}
		s += "}"
	}
	return s
}

// scalars returns valid values that are no lists, all of them different.
func scalars() []val {
	values := []val{truth(false), truth(true)}
	for _, n := range []int64{0, 1, -1, 2, -2, 10, api.MaxRatio, -api.MaxRatio} {
		values = append(values, whole(n))
	}
	values = append(values, num(1, 2), num(-1, 2), num(1, 3), num(3, 2), num(1, api.MaxRatio), num(-1, api.MaxRatio), num(api.MaxRatio, api.MaxRatio-1))
	for _, s := range []string{
		"", " ", "~", "a", "b", "ab", "ac", "B", "1", "2", "10", "true", "false", "[", "]", "[]", ", ", ",", "[1, 2]",
		`"`, `""`, `\`, `\\`, `\"`, `"\`, `a"b`, `a\b`, `\n`, `"a"`, long(api.MaxString), long(api.MaxString-1) + "y", strings.Repeat(`"`, api.MaxString), strings.Repeat(`\`, api.MaxString),
	} {
		values = append(values, str(s))
	}
	return values
}

// good returns valid values, all of them different: ordinary ones, and ones at the limits.
func good() []val {
	values := append(scalars(), list(), list(list()), list(list(list()), list()))
	few := []val{whole(1), whole(2), num(1, 2), truth(true), str("1"), str("a"), list(), list(whole(1)), list(str("1"))}
	for _, a := range few {
		values = append(values, list(a, a, a))
		for _, b := range few {
			values = append(values, list(a, b))
		}
	}
	for _, a := range scalars() {
		values = append(values, list(a), list(list(a), list(list(a), list())))
	}
	return append(values,
		times(whole(1), api.MaxPieces-1), times(str(long(api.MaxString)), 62), times(list(whole(1)), 49), list(times(truth(true), 49), times(truth(false), 48)),
		within(whole(1), api.MaxNest-1), within(list(), api.MaxNest-1), within(times(whole(1), api.MaxPieces-api.MaxNest+1), api.MaxNest-2),
	)
}

// bad returns values that are small enough, but not valid.
func bad() []val {
	values := []val{
		{}, {List: []val{whole(1)}}, {Kind: api.KindNumber}, {Kind: api.KindString, Num: api.Ratio{Den: 1}},
		num(1, 0), num(0, 2), num(2, 4), num(1, -1), num(-1, -1), num(1, api.MaxRatio+1), num(api.MaxRatio+1, 1), num(-api.MaxRatio-1, 1), num(math.MinInt64, math.MinInt64),
		str(long(api.MaxString + 1)), str(long(100000)), str("\x1f"), str("\x7f"), str("a\x1f"), str("a\x7fb"), str("\x00"), str("\n"), str("\t"), str("\x80"), str("\xff"), str("a\xff"),
		str("\u00e4"), str("a\u00e4"), str("\ufffd"), str("\u0161"), str("\U0001f600"), str(long(api.MaxString-1) + "\u00e4"), str(long(api.MaxString-1) + "\n"),
	}
	for kind := range 256 {
		if kind < 1 || kind > 4 {
			values = append(values, val{Kind: uint8(kind)}, val{Kind: uint8(kind), Num: api.Ratio{Num: 1, Den: 1}})
		}
	}
	values = append(values, strangers()...)
	for _, v := range slices.Clone(values) {
		values = append(values, list(v), list(whole(1), v, truth(true)), within(v, api.MaxNest-depth(v)))
	}
	return append(values, times(val{}, api.MaxPieces-1), list(str(""), times(str("\n"), api.MaxPieces-3)))
}

// strangers returns values of each kind with one field that belongs to another one.
func strangers() []val {
	inside := func(v val) func(*val) {
		return func(w *val) { w.List = v.List }
	}
	changes := []struct {
		kind uint8
		call func(*val)
	}{
		{api.KindNumber, func(v *val) { v.Num = api.Ratio{Den: 1} }},
		{api.KindNumber, func(v *val) { v.Num = api.Ratio{Num: 1} }},
		{api.KindNumber, func(v *val) { v.Num = api.Ratio{Num: 1, Den: 2} }},
		{api.KindTruth, func(v *val) { v.Truth = true }},
		{api.KindString, func(v *val) { v.Str = "a" }},
		{api.KindString, func(v *val) { v.Str = "\x00" }},
		{api.KindList, inside(list(val{}))},
		{api.KindList, inside(list(whole(1)))},
		// What is inside of something that is no list is no part, so that there are not too many.
		{api.KindList, inside(times(whole(1), api.MaxPieces+1))},
		{api.KindList, inside(within(whole(1), api.MaxNest+1))},
		{api.KindList, inside(endless())},
	}
	var values []val
	for _, v := range []val{whole(0), whole(1), truth(false), truth(true), str(""), str("a"), list(), list(whole(1))} {
		for _, change := range changes {
			if v.Kind != change.kind {
				changed := v
				change.call(&changed)
				values = append(values, changed)
			}
		}
	}
	return values
}

// excessive returns values with too many parts or too great a depth; some of them are not valid otherwise, either.
func excessive() []val {
	return []val{
		times(whole(1), api.MaxPieces), times(str(long(api.MaxString)), api.MaxPieces), times(list(whole(1)), 50), times(list(), 100000), list(times(truth(true), 49), times(truth(false), 49)),
		within(whole(1), api.MaxNest), within(str(""), api.MaxNest), within(list(), api.MaxNest), within(whole(1), 1000), list(whole(1), list(), within(list(), api.MaxNest-1)),
		within(times(whole(1), api.MaxPieces-api.MaxNest+2), api.MaxNest-2), endless(), list(str("a"), endless()),
		times(val{}, api.MaxPieces), within(val{}, api.MaxNest), list(val{}, times(whole(1), api.MaxPieces-2)), list(times(whole(1), api.MaxPieces-2), val{}), list(num(2, 4), within(whole(1), api.MaxNest)),
		{Kind: api.KindList, Str: "a", List: times(whole(1), api.MaxPieces).List}, {Kind: api.KindList, Truth: true, List: endless().List},
	}
}
