package growth_test

import (
	"slices"
	"strings"

	"gambrel/api"
)

// wrong is a system with its error.
type wrong struct {
	rules []rule
	names string
	e     api.Errno
}

// wrongRules returns single rules that are not valid in layer 7, but would be plain for "AB" otherwise, as far as that is possible: ErrBad.
func wrongRules() []rule {
	list := []rule{{}, from('[', ""), from(']', ""), from('[', "A"), from('A', "["), from('A', "]"), from('A', "]["), from('A', "A[B"), from('A', "B]"), from('A', "#"), from('A', "A B"), from('A', "\x00"), from('A', "\xff"), to('A', 0, put('[', sum(1)), put(']')), to('A', 0, put('['), put(']', sum(1)))}
	for b := range 256 {
		name := byte(b)
		if !slices.Contains([]byte(letters), name) {
			list = append(list, from(name, "A"))
		}
		if !slices.Contains([]byte(letters+"[]"), name) {
			list = append(list, to('A', 0, put(name)), to('A', 0, put('A'), put('['), put(name), put(']')))
		}
		if b > 0 {
			list = append(list, rule{Name: 'A', Left: name}, rule{Name: 'A', Right: name, Out: bare("A")})
		}
	}
	for _, n := range append([]int{-1, 1, 2, api.MaxLot}, integers...) {
		list = append(list, rule{Name: 'A', Weight: n}, rule{Name: 'A', Weight: n, Out: bare("AB")})
	}
	for _, n := range append([]int{-1, -4, 5, 256, 257}, integers...) {
		list = append(list, to('A', n), to('B', n, bare("AB")...))
	}
	for _, f := range []form{sum(0, 1), sum(1, 0), sum(0, 0, 0), sum(api.MaxCoef + 1), sum(-api.MaxCoef - 1)} {
		list = append(list, when(from('A', "A"), f), when(from('A', "A"), sum(0), f), to('A', 0, put('B', f)), to('A', 0, put('B', sum(1), f)))
	}
	for _, f := range []form{sum(0), sum(0, 1, 1), sum(0, api.MaxCoef+1), sum(api.MaxCoef+1, 0)} {
		list = append(list, when(to('A', 1), f), to('A', 1, put('B', f)))
	}
	return append(list, to('A', 0, put('B', make([]form, 5)...)), to('A', 4, put('B', slices.Repeat([]form{sum(0, 1, 1, 1, 1)}, 5)...)))
}

// crowdedRules returns single rules that have too much of something: ErrMany. Some are wrong otherwise, too.
func crowdedRules() []rule {
	var list []rule
	for _, n := range []int{5, 6, 256, 257} {
		list = append(list, when(from('A', "A"), make([]form, n)...), when(from('#', "]"), make([]form, n)...))
	}
	for _, n := range []int{21, 22, 256, 257, 276} {
		list = append(list, from('A', strings.Repeat("A", n)), from('A', strings.Repeat("[", n)), from('C', strings.Repeat("#", n)), to('A', 1, bare(strings.Repeat("B", n))...))
	}
	return list
}

// curvedRules returns single rules that are valid in layer 7, but not plain for "AB": ErrBad.
func curvedRules() []rule {
	var list []rule
	for arity := 1; arity <= api.MaxArgs; arity++ {
		ones := slices.Repeat([]int{1}, arity)
		list = append(list, to('A', arity), to('B', arity, bare("AB")...), to('A', arity, put('A', sum(0, ones...))), when(to('B', arity), sum(0, ones...)))
	}
	for n := 1; n <= api.MaxGuards; n++ {
		list = append(list, when(from('A', "A"), slices.Repeat([]form{sum(n)}, n)...), when(from('A', ""), slices.Repeat([]form{sum(-n)}, n)...), when(from('B', "AB"), make([]form, n)...))
	}
	for n := 1; n <= api.MaxArgs; n++ {
		args := slices.Repeat([]form{sum(n)}, n)
		list = append(list, to('A', 0, put('A', args...)), to('A', 0, put('A'), put('B'), put('B', args...)), to('B', 0, put('['), put('A', args...), put(']')), to('A', 0, append(bare(strings.Repeat("B", 19)), put('A', make([]form, n)...))...))
	}
	for _, name := range []byte(letters) {
		if name == 'A' || name == 'B' {
			continue
		}
		s := string([]byte{name})
		list = append(list, from(name, ""), from(name, "AB"), from(name, "[]"), from(name, s), from('A', s), from('B', "AB"+s), from('A', s+"B"), from('A', "A[B["+s+"]]B"), from('B', strings.Repeat("A", 19)+s))
	}
	return list
}

// wrongNames returns names that are not as they should be, but not too many: ErrBad.
func wrongNames() []string {
	list := []string{"AA", "ABA", "ABB", "AAB", "ABCDEFGHIJKA", "ABCDEFGHIJKK", "AABCDEFGHIJK", "ABCDEFFGHIJK", "AAAAAAAAAAAA", "++", "+-!+", "zaz", "[", "]", "[]", "A[", "]A", "A[]B", "A[B", "ABCDEFGHIJK[", "[ABCDEFGHIJK", "A B", "A,B", " ", "AB\n", "é", "Aé", "ÄÖ", "αβγ", "日本", "\xff", "A\xffB", "\x80\x81", "\x00", "\x00A", "A\x00", "A\x00B", "ABCDEFGHIJK\x00"}
	for b := range 256 {
		if name := string([]byte{byte(b)}); !strings.Contains(letters, name) {
			list = append(list, name, "A"+name, name+"AB", "ABCDEF"+name+"GHIJK")
		}
	}
	return list
}

// longNames returns too many names: ErrMany. Some are wrong otherwise, too.
func longNames() []string {
	return []string{dozen + "M", letters[:13], letters[:14], letters, dozen + "A", strings.Repeat("A", 13), "[" + dozen, dozen + "\x00", strings.Repeat("[]", 7), strings.Repeat("é", 7), strings.Repeat("\xff", 13), strings.Repeat("日", 5), strings.Repeat("A", 256), strings.Repeat("A", 256+12), strings.Repeat("#", 100000), strings.Repeat(dozen, 5462)}
}

// around returns rules that have r, alone and before, behind and between others.
func around(r rule) [][]rule {
	return [][]rule{{r}, append(fibonacci(), r), append([]rule{r}, fibonacci()...), {from('A', "B"), r, from('B', "A")}, slices.Concat(slices.Repeat(fibonacci(), 19), []rule{from('B', ""), r})}
}

// wrongs returns systems that have an error.
func wrongs() []wrong {
	var list []wrong
	add := func(rules []rule, names string, e api.Errno) {
		list = append(list, wrong{rules, names, e})
	}
	for k, r := range slices.Concat(wrongRules(), curvedRules(), crowdedRules()) {
		e := api.ErrBad
		if k >= len(wrongRules())+len(curvedRules()) {
			e = api.ErrMany
		}
		for _, rules := range around(r) {
			add(rules, "AB", e)
		}
		if !strings.Contains(dozen, string([]byte{r.Name})) {
			add([]rule{r}, dozen, e)
		}
	}
	for _, names := range wrongNames() {
		add(nil, names, api.ErrBad)
		add([]rule{}, names, api.ErrBad)
		add(system("A=AA"), names, api.ErrBad)
	}
	for _, names := range longNames() {
		add(nil, names, api.ErrMany)
		add(fibonacci(), names, api.ErrMany)
	}
	for _, n := range []int{41, 42, 80, 256, 257, 1000} {
		add(slices.Repeat(system("A=AA"), n), "A", api.ErrMany)
		add(make([]rule, n), "A", api.ErrMany)
	}
	return list
}

// fewWrongs returns some systems with an error of each kind.
func fewWrongs() []wrong {
	return []wrong{
		{[]rule{{}}, "A", api.ErrBad}, {system("A=["), "A", api.ErrBad}, {[]rule{to('A', -1)}, "A", api.ErrBad}, {[]rule{{Name: 'A', Weight: 1}}, "A", api.ErrBad}, {[]rule{{Name: 'A', Left: 'A'}}, "A", api.ErrBad}, {[]rule{to('A', 1)}, "A", api.ErrBad}, {[]rule{when(from('A', "A"), sum(1))}, "A", api.ErrBad},
		{[]rule{to('A', 0, put('A', sum(1)))}, "A", api.ErrBad}, {fibonacci(), "A", api.ErrBad}, {fibonacci(), "B", api.ErrBad}, {fibonacci(), "", api.ErrBad}, {fibonacci(), "ABA", api.ErrBad}, {fibonacci(), "AB[", api.ErrBad}, {nil, "\x00", api.ErrBad}, {nil, "é", api.ErrBad},
		{slices.Repeat(system("A=A"), 41), "A", api.ErrMany}, {system("A=" + strings.Repeat("A", 21)), "A", api.ErrMany}, {[]rule{when(from('A', "A"), make([]form, 5)...)}, "A", api.ErrMany}, {fibonacci(), dozen + "M", api.ErrMany}, {nil, strings.Repeat("A", 13), api.ErrMany},
	}
}

// wrongWord is a word with its error, for "AB".
type wrongWord struct {
	w []mod
	e api.Errno
}

// badWords returns words with an error of layer 6, or that are not plain for "AB".
func badWords() []wrongWord {
	long := func(n int) string { return strings.Repeat("A", n) }
	list := []wrongWord{
		{plain("["), api.ErrOpen}, {plain("]"), api.ErrOpen}, {plain("]["), api.ErrOpen}, {plain("A[B"), api.ErrOpen}, {plain("A]B"), api.ErrOpen}, {plain("[A]]"), api.ErrOpen}, {plain(long(1999) + "["), api.ErrOpen},
		// What is not valid in layer 6 comes before what is not plain.
		{plain("C["), api.ErrOpen}, {[]mod{with('A', 1), with('[')}, api.ErrOpen}, {[]mod{with(']'), with('C')}, api.ErrOpen}, {plain(strings.Repeat("C", 2001)), api.ErrMany},
		{plain(long(2001)), api.ErrMany}, {plain(strings.Repeat("[", 2001)), api.ErrMany}, {make([]mod, 2001), api.ErrMany}, {plain("#" + long(2000)), api.ErrMany}, {plain(long(65536)), api.ErrMany}, {plain(long(100000)), api.ErrMany},
		{plain("[#"), api.ErrBad}, {plain("C#"), api.ErrBad}, {[]mod{with('[', 1), with(']')}, api.ErrBad}, {[]mod{with('['), with(']', 1)}, api.ErrBad}, {[]mod{with('[', 1), with(']', 1)}, api.ErrBad},
		{plain(long(1999) + "C"), api.ErrBad}, {plain("C" + long(1999)), api.ErrBad}, {plain("A[B[C]]A"), api.ErrBad}, {plain("[C]"), api.ErrBad}, {append(plain(long(1999)), with('B', 0)), api.ErrBad},
	}
	for _, name := range []byte(letters[2:]) {
		list = append(list, wrongWord{plain(string([]byte{name})), api.ErrBad}, wrongWord{plain("AB[" + string([]byte{name}) + "]"), api.ErrBad})
	}
	for b := range 256 {
		if name := byte(b); !slices.Contains([]byte(letters+"[]"), name) {
			list = append(list, wrongWord{[]mod{with(name)}, api.ErrBad}, wrongWord{[]mod{with('A'), with(name), with('B')}, api.ErrBad})
		}
	}
	for n := 1; n <= 6; n++ {
		for _, name := range []byte("AB") {
			m := with(name, make([]int, n)...)
			list = append(list, wrongWord{[]mod{m}, api.ErrBad}, wrongWord{[]mod{with('A'), with('['), m, with(']'), with('B')}, api.ErrBad})
		}
	}
	return append(list, wrongWord{[]mod{with('A', api.MaxArg+1)}, api.ErrBad}, wrongWord{[]mod{with('A', -1)}, api.ErrBad}, wrongWord{[]mod{with('A', make([]int, 1000)...)}, api.ErrBad})
}
