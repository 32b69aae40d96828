package value_test

import (
	"math"
	"slices"
	"strings"
	"testing"
	"unicode/utf8"

	"gambrel/api"
	"gambrel/ratio"
	"gambrel/value"
)

// count returns the number of parts of a value, found without the program.
func count(v val) int {
	n := 1
	if v.Kind == api.KindList {
		for _, element := range v.List {
			n += count(element)
		}
	}
	return n
}

// depth returns the depth of a value, found without the program.
func depth(v val) int {
	n := 1
	if v.Kind == api.KindList {
		for _, element := range v.List {
			n = max(n, depth(element)+1)
		}
	}
	return n
}

// is reports whether there is no error, and two values are identical.
func is(got val, e api.Errno, want val) bool {
	return e == api.OK && identical(got, want)
}

// none reports whether there is just an error.
func none(got val, e, want api.Errno) bool {
	return e == want && identical(got, val{})
}

// identical compares without the program.
func identical(a, b val) bool {
	return a.Kind == b.Kind && a.Num == b.Num && a.Truth == b.Truth && a.Str == b.Str && slices.EqualFunc(a.List, b.List, identical)
}

func TestInputsAreWhatTheySay(t *testing.T) {
	for i, v := range good() {
		if count(v) > 100 || depth(v) > 6 {
			t.Error(show(v))
		}
		for _, w := range good()[:i] {
			if identical(v, w) {
				t.Error(show(v), "is there twice")
			}
		}
	}
	for _, v := range bad() {
		if count(v) > 100 || depth(v) > 6 {
			t.Error(show(v))
		}
	}
}

func TestCheck(t *testing.T) {
	for _, v := range good() {
		if e := value.Check(v); e != api.OK {
			t.Error(show(v), e)
		}
	}
	for _, v := range bad() {
		if e := value.Check(v); e != api.ErrBad {
			t.Error(show(v), e)
		}
	}
	for _, v := range excessive() {
		if e := value.Check(v); e != api.ErrMany {
			t.Error(show(v), e)
		}
	}
}

func TestLimitsOfCheck(t *testing.T) {
	for _, c := range []struct {
		v    val
		want api.Errno
	}{
		{times(whole(1), 99), api.OK},
		{times(whole(1), 100), api.ErrMany},
		{times(list(), 99), api.OK},
		{times(list(), 100), api.ErrMany},
		{list(times(whole(1), 48), times(whole(1), 49)), api.OK},
		{list(times(whole(1), 49), times(whole(1), 49)), api.ErrMany},
		{list(list(list(list(list(whole(1)))))), api.OK},
		{list(list(list(list(list(list()))))), api.OK},
		{list(list(list(list(list(list(whole(1))))))), api.ErrMany},
		{list(list(list(list(list(list(list())))))), api.ErrMany},
		{list(whole(1), list(list(list(list(whole(1), list()))))), api.OK},
		{list(list(list(list(list(whole(1), list(whole(1)))))), whole(1)), api.ErrMany},
		{str(long(60)), api.OK},
		{str(long(61)), api.ErrBad},
		{str(" ~"), api.OK},
		{val{Kind: api.KindList, List: []val{}}, api.OK},
		{val{Kind: api.KindNumber, Num: api.Ratio{Num: 1, Den: 2}, List: []val{}}, api.OK},
		{val{Kind: api.KindTruth, List: []val{}}, api.OK},
		{val{Kind: api.KindString, List: make([]val, 0, 10)}, api.OK},
	} {
		if e := value.Check(c.v); e != c.want {
			t.Error(show(c.v), e)
		}
	}
}

func TestCheckOfAllBytesAndRunes(t *testing.T) {
	try := func(c string, fine bool) {
		want := api.ErrBad
		if fine {
			want = api.OK
		}
		for _, s := range []string{c, "a" + c, c + "a", long(api.MaxString-len(c)) + c} {
			if e := value.Check(str(s)); e != want {
				t.Errorf("%q %v", s, e)
			}
		}
	}
	for b := range 256 {
		try(string([]byte{byte(b)}), b >= 32 && b <= 126)
	}
	for r := rune(128); r < 0x11000; r++ {
		if utf8.ValidRune(r) {
			try(string(r), false)
		}
	}
}

func TestCheckOfAllKinds(t *testing.T) {
	for kind := range 256 {
		number, plain := whole(1), val{}
		number.Kind, plain.Kind = uint8(kind), uint8(kind)
		want := map[bool]api.Errno{true: api.OK, false: api.ErrBad}
		if e := value.Check(number); e != want[kind == 1] {
			t.Error(kind, e)
		}
		if e := value.Check(plain); e != want[kind == 2 || kind == 3 || kind == 4] {
			t.Error(kind, e)
		}
	}
}

func TestNumber(t *testing.T) {
	if v, e := value.Number(6, 4); !is(v, e, num(3, 2)) {
		t.Error(show(v), e)
	}
	ends := []int64{math.MinInt64, -api.MaxRatio - 1, -api.MaxRatio, -6, -1, 0, 1, 2, 4, 6, api.MaxRatio - 1, api.MaxRatio, api.MaxRatio + 1, 2 * api.MaxRatio, math.MaxInt64}
	seen := map[api.Errno]bool{}
	for _, n := range ends {
		for _, d := range ends {
			r, fault := ratio.Make(n, d)
			v, e := value.Number(n, d)
			if fault == api.OK && !is(v, e, num(r.Num, r.Den)) || fault != api.OK && !none(v, e, fault) {
				t.Error(n, d, show(v), e)
			}
			seen[e] = true
		}
	}
	if !seen[api.OK] || !seen[api.ErrZero] || !seen[api.ErrRange] || len(seen) != 3 {
		t.Error(seen)
	}
}

func TestAdd(t *testing.T) {
	for _, c := range []struct{ a, b, want val }{
		{whole(1), whole(2), whole(3)},
		{num(1, 2), num(1, 3), num(5, 6)},
		{num(1, 2), num(-1, 2), whole(0)},
		{whole(api.MaxRatio - 1), whole(1), whole(api.MaxRatio)},
		{str("ab"), str("c"), str("abc")},
		{str("c"), str("ab"), str("cab")},
		{str(""), str(""), str("")},
		{str(""), str("a"), str("a")},
		{str("a"), str(""), str("a")},
		{str(`"`), str(`\`), str(`"\`)},
		{str(long(30)), str(long(30)), str(long(60))},
		{str(long(60)), str(""), str(long(60))},
		{list(), list(), list()},
		{list(), list(whole(1)), list(whole(1))},
		{list(whole(1)), list(), list(whole(1))},
		{list(list()), list(list()), list(list(), list())},
		{list(whole(1), str("a")), list(truth(true), list(whole(2))), list(whole(1), str("a"), truth(true), list(whole(2)))},
		{val{Kind: api.KindList, List: []val{}}, val{Kind: api.KindList}, list()},
		{times(whole(1), 50), times(whole(1), 49), times(whole(1), 99)},
		{times(whole(1), 99), list(), times(whole(1), 99)},
		{list(), times(whole(1), 99), times(whole(1), 99)},
		{list(times(whole(1), 49)), list(times(whole(2), 48)), list(times(whole(1), 49), times(whole(2), 48))},
		{within(whole(1), 5), within(list(), 5), list(within(whole(1), 4), within(list(), 4))},
	} {
		if v, e := value.Add(c.a, c.b); !is(v, e, c.want) {
			t.Error(show(c.a, c.b, v), e)
		}
	}
}

func TestErrorsOfAdd(t *testing.T) {
	for _, c := range []struct {
		a, b val
		want api.Errno
	}{
		{whole(1), str("1"), api.ErrKind},
		{whole(1), truth(true), api.ErrKind},
		{whole(1), list(whole(1)), api.ErrKind},
		{truth(true), truth(true), api.ErrKind},
		{truth(false), truth(true), api.ErrKind},
		{str("a"), list(str("a")), api.ErrKind},
		{str(""), list(), api.ErrKind},
		{str(long(60)), times(whole(1), 99), api.ErrKind},
		{whole(api.MaxRatio), whole(1), api.ErrRange},
		{whole(-api.MaxRatio), whole(-1), api.ErrRange},
		{num(1, api.MaxRatio), num(1, api.MaxRatio-1), api.ErrRange},
		{str(long(30)), str(long(31)), api.ErrMany},
		{str(long(60)), str("a"), api.ErrMany},
		{str("a"), str(long(60)), api.ErrMany},
		{str(long(60)), str(long(60)), api.ErrMany},
		{times(whole(1), 50), times(whole(1), 50), api.ErrMany},
		{times(whole(1), 99), list(whole(1)), api.ErrMany},
		{list(list()), times(list(), 99), api.ErrMany},
		{list(times(whole(1), 49)), list(times(whole(2), 49)), api.ErrMany},
		{times(whole(1), 99), times(whole(1), 99), api.ErrMany},
	} {
		if v, e := value.Add(c.a, c.b); !none(v, e, c.want) {
			t.Error(show(c.a, c.b, v), e)
		}
	}
}

func TestKindsOfAdd(t *testing.T) {
	for _, a := range scalars() {
		for _, b := range append(scalars(), list(), list(a)) {
			for _, pair := range [][2]val{{a, b}, {b, a}} {
				v, e := value.Add(pair[0], pair[1])
				wrong := a.Kind != b.Kind || a.Kind == api.KindTruth
				if wrong && !none(v, e, api.ErrKind) || !wrong && e == api.ErrKind {
					t.Error(show(a, b, v), e)
				}
			}
		}
	}
}

func TestLen(t *testing.T) {
	for _, v := range good() {
		n, e := value.Len(v)
		switch v.Kind {
		case api.KindString:
			if n != len(v.Str) || e != api.OK {
				t.Error(show(v), n, e)
			}
		case api.KindList:
			if n != len(v.List) || e != api.OK {
				t.Error(show(v), n, e)
			}
		default:
			if n != 0 || e != api.ErrKind {
				t.Error(show(v), n, e)
			}
		}
	}
}

func TestAt(t *testing.T) {
	for _, v := range good() {
		n := len(v.Str) + len(v.List)
		for i := range n {
			want := str("")
			if v.Kind == api.KindList {
				want = v.List[i]
			} else {
				want.Str = string([]byte{v.Str[i]})
			}
			if got, e := value.At(v, i); !is(got, e, want) {
				t.Error(show(v, got), i, e)
			}
		}
		fault := api.ErrKind
		if v.Kind == api.KindString || v.Kind == api.KindList {
			fault = api.ErrArg
		}
		for _, i := range []int{-1, n, n + 1, math.MaxInt, math.MinInt} {
			if got, e := value.At(v, i); !none(got, e, fault) {
				t.Error(show(v, got), i, e)
			}
		}
	}
	for _, v := range []val{whole(3), truth(true)} {
		if got, e := value.At(v, 0); !none(got, e, api.ErrKind) {
			t.Error(show(v, got), e)
		}
	}
}

// invalid returns values that are not valid, with their errors.
func invalid() map[api.Errno][]val {
	return map[api.Errno][]val{api.ErrBad: bad(), api.ErrMany: excessive()}
}

func TestInvalidValues(t *testing.T) {
	for fault, values := range invalid() {
		for _, v := range values {
			if n, e := value.Len(v); n != 0 || e != fault {
				t.Error("Len", show(v), n, e)
			}
			for _, at := range []int{0, -1, 1, 1000} {
				if got, e := value.At(v, at); !none(got, e, fault) {
					t.Error("At", show(v, got), at, e)
				}
			}
			if s, e := value.Text(v); s != "" || e != fault {
				t.Error("Text", show(v), s, e)
			}
		}
	}
}

// Of two values that are not valid, the first one counts.
func TestInvalidPairs(t *testing.T) {
	try := func(a, b val, fault api.Errno) {
		if got, e := value.Add(a, b); !none(got, e, fault) {
			t.Error("Add", show(a, b, got), e)
		}
		if n, e := value.Compare(a, b); n != 0 || e != fault {
			t.Error("Compare", show(a, b), n, e)
		}
	}
	others := []val{whole(1), truth(true), str(""), str(long(60)), list(), times(whole(1), 99)}
	faults := invalid()
	for fault, values := range faults {
		for _, v := range values {
			try(v, v, fault)
			for _, other := range others {
				try(v, other, fault)
				try(other, v, fault)
			}
			for _, second := range faults {
				try(v, second[0], fault)
			}
		}
	}
	for _, c := range []struct {
		a, b val
		want api.Errno
	}{
		{val{}, endless(), api.ErrBad},
		{endless(), val{}, api.ErrMany},
		{str("\n"), times(whole(1), 100), api.ErrBad},
		{times(whole(1), 100), str("\n"), api.ErrMany},
		{list(num(2, 4)), list(within(whole(1), 6)), api.ErrBad},
		{within(whole(1), 6), num(2, 4), api.ErrMany},
	} {
		try(c.a, c.b, c.want)
	}
}

func TestStringsOfMaxString(t *testing.T) {
	most := str(strings.Repeat("~", api.MaxString))
	if n, e := value.Len(most); n != 60 || e != api.OK {
		t.Error(n, e)
	}
	if got, e := value.At(most, 59); !is(got, e, str("~")) {
		t.Error(show(got), e)
	}
	if got, e := value.At(most, 60); !none(got, e, api.ErrArg) {
		t.Error(show(got), e)
	}
}
