package value_test

import (
	"slices"
	"strings"
	"testing"
	"unsafe"

	"gambrel/api"
	"gambrel/value"
)

func TestSameOfAllPairs(t *testing.T) {
	values := good()
	for i, a := range values {
		for j, b := range values {
			if value.Same(a, b) != (i == j) {
				t.Error(show(a, b))
			}
		}
		for _, b := range bad() {
			if value.Same(a, b) || value.Same(b, a) {
				t.Error(show(a, b))
			}
		}
	}
}

// Each pair differs in one place, in a field that belongs to its kind or does not.
func TestSameOfOtherValues(t *testing.T) {
	for _, v := range []val{{}, {Kind: 5}, whole(1), truth(false), str("a"), list(), list(whole(1)), num(2, 4), {Kind: 9, List: []val{{}}}} {
		for _, change := range []func(*val){
			func(v *val) {},
			func(v *val) { v.Kind += 16 },
			func(v *val) { v.Num.Num += 16 },
			func(v *val) { v.Num.Den += 16 },
			func(v *val) { v.Truth = !v.Truth },
			func(v *val) { v.Str += "\x00" },
			func(v *val) { v.List = append(slices.Clone(v.List), val{}) },
			func(v *val) { v.List = list(list(v.List...)).List },
		} {
			changed := v
			change(&changed)
			for _, wrap := range []func(val) val{
				func(v val) val { return v },
				func(v val) val { return list(v) },
				func(v val) val { return list(truth(true), list(v), v) },
				func(v val) val { return val{List: []val{v}} },
				func(v val) val { return within(v, 20) },
			} {
				a, b := wrap(v), wrap(changed)
				if value.Same(a, b) != identical(v, changed) || value.Same(b, a) != identical(v, changed) {
					t.Error(show(a, b))
				}
			}
		}
	}
	if value.Same(num(1, 2), num(2, 4)) || value.Same(str("1"), whole(1)) || value.Same(list(whole(1)), whole(1)) {
		t.Error("different values")
	}
}

func TestNilAndEmptyListsAreTheSame(t *testing.T) {
	for _, v := range []val{list(), whole(1), truth(true), str("a"), {}} {
		a, b := v, v
		a.List, b.List = nil, make([]val, 0, 5)
		if !value.Same(a, b) || !value.Same(b, a) || !value.Same(list(a, b), list(b, a)) {
			t.Error(show(v))
		}
	}
}

func TestTwin(t *testing.T) {
	for _, v := range append(good(), bad()[:100]...) {
		if w := value.Twin(v); !identical(v, w) || !value.Same(v, w) {
			t.Error(show(v, w))
		}
	}
	for _, v := range []val{times(whole(1), 1000), within(str("\n"), 100), {Kind: 7, Num: api.Ratio{Num: 3, Den: -3}, Truth: true, Str: long(1000), List: []val{{List: []val{whole(1)}}}}} {
		if w := value.Twin(v); !identical(v, w) {
			t.Error(show(v, w))
		}
	}
}

// Levels of nesting up to the limit of the document.
func TestSameAndTwinOfDeepValues(t *testing.T) {
	const levels = 1 << 16
	a, b := within(whole(1), levels), within(whole(2), levels)
	if !value.Same(a, a) || value.Same(a, b) || !value.Same(b, value.Twin(b)) || value.Same(a, value.Twin(b)) {
		t.Error("deep values")
	}
	for _, v := range []val{a, b, {List: a.List}} {
		want := api.ErrMany
		if v.Kind == 0 {
			want = api.ErrBad
		}
		if e := value.Check(v); e != want {
			t.Error(e)
		}
	}
}

func TestSameAndTwinOfListsThatContainThemselves(t *testing.T) {
	a, b, c := endless(), endless(), endless()
	c.List[0] = whole(2)
	if !value.Same(a, a) || !value.Same(a, b) || value.Same(a, c) || !value.Same(a, list(whole(1), b)) || value.Same(a, list(whole(2), b)) || value.Same(a, list(whole(1))) {
		t.Error("lists that contain themselves")
	}
	twin := value.Twin(a)
	if !value.Same(twin, a) || value.Same(twin, c) {
		t.Error("a copy of a list that contains itself")
	}
	twin.List[0] = whole(2)
	if !value.Same(twin, c) || !value.Same(a, b) {
		t.Error("a copy that was changed")
	}
}

// A list of two elements that are in the same place, and so on: its parts are too many to be gone through one by one.
func TestSameOfListsThatContainOneTwice(t *testing.T) {
	a, b, c := whole(1), whole(1), whole(2)
	for range 60 {
		a, b, c = list(a, a), list(b, b), list(c, c)
	}
	if !value.Same(a, b) || value.Same(a, c) || value.Check(a) != api.ErrMany {
		t.Error("lists that contain one twice")
	}
}

// area is a piece of memory.
type area struct{ from, to uintptr }

// areas returns where the strings and lists of a value lie, with the capacity of the lists.
func areas(v val) []area {
	var all []area
	if v.Str != "" {
		from := uintptr(unsafe.Pointer(unsafe.StringData(v.Str)))
		all = append(all, area{from, from + uintptr(len(v.Str))})
	}
	if cap(v.List) > 0 {
		from := uintptr(unsafe.Pointer(unsafe.SliceData(v.List)))
		all = append(all, area{from, from + uintptr(cap(v.List))*unsafe.Sizeof(val{})})
	}
	for _, element := range v.List {
		all = append(all, areas(element)...)
	}
	return all
}

// fresh returns a value of which no two parts share memory: its lists have room behind their elements, which holds something.
func fresh(v val) val {
	v.Str = strings.Clone(v.Str)
	if v.List == nil {
		return v
	}
	elements := make([]val, len(v.List), len(v.List)+3)
	for i, element := range v.List {
		elements[i] = fresh(element)
	}
	for i := range 3 {
		elements[:cap(elements)][len(elements)+i] = str("behind")
	}
	v.List = elements
	return v
}

// intact reports whether a fresh value is still what it was made of.
func intact(v, from val) bool {
	if from.List != nil {
		for _, behind := range v.List[len(v.List):cap(v.List)] {
			if !identical(behind, str("behind")) {
				return false
			}
		}
	}
	same := func(v, from val) bool { return intact(v, from) }
	w := v
	w.List, from.List = nil, slices.Clone(from.List)
	return len(v.List) == len(from.List) && w.Str == from.Str && w.Kind == from.Kind && w.Num == from.Num && w.Truth == from.Truth && slices.EqualFunc(v.List, from.List, same)
}

// small returns valid values that are not too large for sums of them.
func small() []val {
	return []val{
		whole(1), truth(true), str(""), str("a"), str("ab"), str("abc"), list(), list(list()), list(str("a")), list(str("ab"), list(str("abc"), whole(1))),
		list(list(), list(list(str("x"))), str("")), {Kind: api.KindList, List: []val{}}, times(str("ab"), 10),
	}
}

func TestArgumentsAreOnlyRead(t *testing.T) {
	for _, a := range small() {
		for _, b := range small() {
			v, w := fresh(a), fresh(b)
			value.Check(v)
			value.Same(v, w)
			value.Twin(v)
			value.Add(v, w)
			value.Compare(v, w)
			value.Len(v)
			value.At(v, 0)
			value.Text(v)
			if !intact(v, a) || !intact(w, b) {
				t.Error(show(a, b, v, w))
			}
		}
	}
}

func TestResultsShareNoMemory(t *testing.T) {
	for _, a := range small() {
		for _, b := range small() {
			v, w := fresh(a), fresh(b)
			results := []val{v, w, value.Twin(v), value.Twin(v)}
			for range 2 {
				one, _ := value.Add(v, w)
				two, _ := value.Add(v, v)
				results = append(results, one, two)
			}
			for i := range 3 {
				one, _ := value.At(v, i)
				two, _ := value.At(v, i)
				results = append(results, one, two)
			}
			text, _ := value.Text(v)
			one, _ := value.Parse(text)
			two, _ := value.Parse(text)
			results = append(results, str(text), one, two)
			var all []area
			for _, result := range results {
				all = append(all, areas(result)...)
			}
			slices.SortFunc(all, func(p, q area) int { return int(p.from) - int(q.from) })
			for i := 1; i < len(all); i++ {
				if all[i].from < all[i-1].to {
					t.Fatal(show(a, b), "share memory")
				}
			}
		}
	}
}

// A list may have two elements in the same place; those of a copy have places of their own.
func TestPartsOfResultsShareNoMemory(t *testing.T) {
	inner := list(str("ab"), list(whole(1)))
	v := list(inner, inner, inner)
	sum, _ := value.Add(v, v)
	at, _ := value.At(list(v), 0)
	for _, result := range []val{value.Twin(v), sum, at} {
		result.List[0].List[1].List[0] = whole(2)
		result.List[0].List[0] = whole(3)
		if !identical(result.List[1], inner) || !identical(result.List[len(result.List)-1], inner) || !identical(inner, list(str("ab"), list(whole(1)))) {
			t.Error(show(result, inner))
		}
	}
}

func TestNothingIsKept(t *testing.T) {
	first, _ := value.Parse("[[1], 2]")
	first.List[0].List[0] = str("changed")
	first.List[1] = str("changed")
	second, e := value.Parse("[[1], 2]")
	if !is(second, e, list(list(whole(1)), whole(2))) {
		t.Error(show(second), e)
	}
}
