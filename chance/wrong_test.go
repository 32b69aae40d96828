package chance_test

import (
	"slices"
	"strings"

	"gambrel/api"
)

// wrongRules returns single rules that are not valid, of each kind of fault.
func wrongRules() []rule {
	return slices.Concat(wrongNames(), wrongNumbers(), wrongForms(), wrongShapes())
}

func wrongNames() []rule {
	var list []rule
	for b := range 256 {
		if name := byte(b); strings.IndexByte(names, name) < 0 {
			list = append(list, to(name, 0), letters(name, "F"), weigh(7, letters(name, "[F]")))
		}
	}
	return append(list, letters('[', "["), letters(']', "]"))
}

// wrongWeights are weights that no rule may have.
func wrongWeights() []int {
	return append([]int{0, -1, -2, -100, -256, api.MaxLot + 1, api.MaxLot + 2, 2 * api.MaxLot, api.MaxWeight, -api.MaxLot}, integers...)
}

// wrongNumbers returns rules that are only wrong in their Arity, Weight, Left or Right: where the Arity is positive, forms have as many Coefs.
func wrongNumbers() []rule {
	var list []rule
	for _, arity := range []int{-1, -2, -4, 5, 6, 8, 256, 257, -256} {
		many := slices.Repeat([]int{1}, max(arity, 0))
		list = append(list, to('A', arity), to('A', arity, put('F', sum(0, many...))), when(to('A', arity), sum(0, many...)))
	}
	for _, weight := range wrongWeights() {
		list = append(list, rule{Name: 'A', Weight: weight}, weigh(weight, letters('A', "[A]B")), weigh(weight, when(to('A', 1, put('B', sum(1, 1))), sum(0, 1))))
	}
	for b := 1; b < 256; b++ {
		r, name := letters('A', "F"), byte(b)
		list = append(list, beside(name, r, 0), beside(0, r, name), beside(name, r, name))
	}
	for _, n := range integers {
		list = append(list, to('A', n), to('A', n, put('F', sum(0))))
	}
	return list
}

// wrongForms returns rules with a guard, or an Arg of a shape, that is not valid.
func wrongForms() []rule {
	var list []rule
	for arity := range api.MaxArgs + 1 {
		fine := sum(0, make([]int, arity)...)
		add := func(f form) {
			list = append(list, when(to('A', arity), f), when(to('A', arity), fine, fine, fine, f), to('A', arity, put('F', f)), to('A', arity, put('['), put('F', fine, fine, fine, f), put(']')), weigh(9, to('A', arity, put('F'), put('F', f))))
		}
		for n := range 7 {
			if n != arity {
				add(sum(0, make([]int, n)...))
			}
		}
		for _, n := range append([]int{api.MaxCoef + 1, -api.MaxCoef - 1, 2 * api.MaxCoef, api.MaxArg}, integers...) {
			add(sum(n, make([]int, arity)...))
			for k := range arity {
				f := sum(0, make([]int, arity)...)
				f.Coefs[k] = n
				add(f)
			}
		}
	}
	return list
}

// wrongShapes returns rules whose Out has a shape that is not valid, or brackets that do not match.
func wrongShapes() []rule {
	zero := sum(0)
	list := []rule{to('A', 0, put('[', zero), put(']')), to('A', 0, put('['), put(']', zero)), to('A', 0, put('[', zero), put(']', zero)), to('A', 0, put('F', zero, zero, zero, zero, zero)), to('A', 0, put('F'), put('G', slices.Repeat([]form{zero}, 1000)...))}
	for b := range 256 {
		if name := byte(b); strings.IndexByte(names+"[]", name) < 0 {
			list = append(list, to('A', 0, put(name)), to('A', 1, put('F'), put(name, sum(0, 1))))
		}
	}
	for _, s := range []string{"[", "]", "][", "[[]", "[]]", "F[", "]F", "[F", "F]", "[]][", "]F[", strings.Repeat("[", 20), strings.Repeat("]", 20), strings.Repeat("[]", 9) + "][", strings.Repeat("F", 19) + "["} {
		list = append(list, letters('A', s), weigh(2, letters('A', s)))
	}
	return list
}

// crowdedRules returns single rules with too many guards or shapes. Some are wrong otherwise, too.
func crowdedRules() []rule {
	var list []rule
	for _, n := range []int{5, 6, 8, 256, 257, 1000} {
		guards := slices.Repeat([]form{sum(0)}, n)
		list = append(list, when(letters('A', "F"), guards...), when(letters('#', "]"), guards...), weigh(0, when(letters('A', ""), guards...)), beside('B', when(letters('A', ""), guards...), 0), when(to('A', 2), make([]form, n)...))
	}
	for _, n := range []int{21, 22, 40, 256, 257, 276, 1000} {
		list = append(list, letters('A', strings.Repeat("F", n)), letters('A', strings.Repeat("[", n)), weigh(-1, letters('A', strings.Repeat("F", n))), weigh(api.MaxLot+1, letters('A', strings.Repeat("F", n))), to('A', 9, make([]shape, n)...))
	}
	return list
}

// manyRules returns lists of too many rules.
func manyRules() [][]rule {
	var lists [][]rule
	for _, n := range []int{41, 42, 80, 256, 257, 296, 10000} {
		for _, r := range []rule{letters('A', "F"), weigh(5, letters('A', "F")), weigh(0, letters('A', "F")), letters('#', "F"), {}, letters('A', strings.Repeat("F", 21))} {
			lists = append(lists, slices.Repeat([]rule{r}, n))
		}
	}
	return append(lists, append(largest(), letters('A', "F")))
}

// wrong are rules with the error of Check.
type wrong struct {
	rules []rule
	e     api.Errno
}

// fewWrongs returns some wrong rules, for each fault.
func fewWrongs() []wrong {
	crowded := when(letters('A', "F"), make([]form, 5)...)
	return []wrong{
		{[]rule{letters('#', "F")}, api.ErrBad}, {[]rule{letters('[', "F")}, api.ErrBad}, {[]rule{to('A', -1)}, api.ErrBad}, {[]rule{to('A', 5)}, api.ErrBad}, {[]rule{when(to('A', 1), sum(0))}, api.ErrBad}, {[]rule{letters('A', "]")}, api.ErrBad}, {[]rule{to('A', 2, put('F', sum(0, 1)))}, api.ErrBad}, {append(bush(), letters('B', "[")), api.ErrBad},
		{[]rule{weigh(0, letters('A', "A"))}, api.ErrBad}, {[]rule{weigh(-1, letters('A', "A"))}, api.ErrBad}, {append(bush(), weigh(0, letters('Z', ""))), api.ErrBad}, {append(bush(), weigh(api.MaxLot+1, letters('Z', ""))), api.ErrBad}, {[]rule{beside('A', letters('A', "A"), 0)}, api.ErrBad}, {append(bush(), beside(0, letters('A', "A"), 'A')), api.ErrBad},
		{slices.Repeat([]rule{letters('A', "A")}, 41), api.ErrMany}, {make([]rule, 41), api.ErrMany}, {[]rule{letters('A', strings.Repeat("A", 21))}, api.ErrMany}, {[]rule{crowded}, api.ErrMany}, {append(bush(), crowded), api.ErrMany}, {[]rule{weigh(0, letters('A', "A")), crowded}, api.ErrMany}, {[]rule{crowded, letters('#', "")}, api.ErrMany},
	}
}

// largest returns valid rules with as many of everything as there may be, and as large weights.
func largest() []rule {
	var rules []rule
	for i := range api.MaxRules {
		r := weigh(api.MaxLot-i, to(names[i/4], api.MaxArgs))
		for k := range api.MaxGuards {
			r.Guards = append(r.Guards, sum(api.MaxCoef-k, i, -api.MaxCoef, api.MaxCoef, k))
		}
		for k := range api.MaxOut {
			f := sum(k-api.MaxCoef, -k, api.MaxCoef, -api.MaxCoef, 0)
			r.Out = append(r.Out, put(names[(k+i)%len(names)], f, f, f, f))
		}
		rules = append(rules, r)
	}
	return rules
}

// goods returns lists of valid rules.
func goods() [][]rule {
	return [][]rule{
		nil, {}, bush(), largest(), {letters('A', "")}, {letters('A', "A[B]+")}, {weigh(api.MaxLot, letters('A', "A"))}, {weigh(api.MaxLot-1, letters('A', "A")), weigh(2, letters('A', "B"))},
		slices.Repeat([]rule{letters('A', "AB")}, 40), slices.Repeat([]rule{weigh(api.MaxLot, letters('A', "B"))}, 40), {letters('A', strings.Repeat("F", 20))}, {letters('A', strings.Repeat("[]", 10))}, {when(letters('A', "B"), make([]form, 4)...)},
		{when(weigh(3, to('A', 2, put('A', sum(0, 0, 1), sum(api.MaxCoef, -api.MaxCoef, 0)), put('C'))), sum(-1, 1, 0), sum(0, 0, 1))}, {to('A', 4, put('F', sum(1, 1, 1, 1, 1))), to('A', 4)}, {letters('A', "A"), to('A', 1), to('A', 2), to('+', 0, put('-'))},
	}
}

// wrongWord is a word with its error.
type wrongWord struct {
	w []mod
	e api.Errno
}

func wrongWords() []wrongWord {
	list := []wrongWord{
		{plain("["), api.ErrOpen}, {plain("]"), api.ErrOpen}, {plain("]["), api.ErrOpen}, {plain("A[A"), api.ErrOpen}, {plain("A]A"), api.ErrOpen}, {plain("[]]"), api.ErrOpen}, {plain(strings.Repeat("A", 1999) + "["), api.ErrOpen},
		{plain("#"), api.ErrBad}, {plain("[#"), api.ErrBad}, {plain(strings.Repeat("A", 1999) + "#"), api.ErrBad}, {plain("A\x00"), api.ErrBad}, {plain("A\xff"), api.ErrBad}, {[]mod{{}}, api.ErrBad},
		{[]mod{with('[', 0), with(']')}, api.ErrBad}, {[]mod{with('['), with(']', 1)}, api.ErrBad}, {[]mod{with('A', 1, 2, 3, 4, 5)}, api.ErrBad}, {[]mod{with('A'), with('A', 0, top+1)}, api.ErrBad}, {[]mod{with('A', -top-1), with('A')}, api.ErrBad},
		{plain(strings.Repeat("A", 2001)), api.ErrMany}, {plain(strings.Repeat("[", 2001)), api.ErrMany}, {make([]mod, 2001), api.ErrMany}, {plain("#" + strings.Repeat("A", 2000)), api.ErrMany}, {plain(strings.Repeat("A", 30000)), api.ErrMany},
	}
	for _, n := range integers {
		list = append(list, wrongWord{[]mod{with('A', n)}, api.ErrBad})
	}
	return list
}

// wrongModules returns single modules that are not valid.
func wrongModules() []mod {
	list := []mod{{}, with('[', 0), with(']', 0), with('[', 1, 2, 3, 4, 5), with('A', 1, 2, 3, 4, 5), with('A', make([]int, 1000)...), with('#', 1), with('A', top+1), with('A', -top-1), with('A', 0, 0, 0, top+1), with('A', 0, -top-1, 0), with('A', 2*top)}
	for b := range 256 {
		if name := byte(b); strings.IndexByte(names+"[]", name) < 0 {
			list = append(list, with(name))
		}
	}
	for _, n := range integers {
		list = append(list, with('A', n), with('B', 1, n))
	}
	return list
}

// goodPaths are paths that a cell may have: of digits alone, of / alone, and of both, short ones and ones as long as they may be.
func goodPaths() []string {
	list := []string{"0", "9", "/", "00", "//", "0/", "/0", "0123456789", "9876543210/", "2/0", "2/1", "12/3/19", "1999", "///", "007", "99999999999999999999999999", "0/0/0/0", "/1//2///3/"}
	for _, n := range []int{99, 150, 198, 199, 200} {
		for _, s := range []string{"0", "/", "1/", "12/345"} {
			list = append(list, strings.Repeat(s, n)[:n])
		}
	}
	return list
}

// wrongPaths are strings that are no path of a cell.
func wrongPaths() []string {
	list := []string{"", " ", "a", "A", "-", "-1", "+1", "1.5", "1,2", "0 ", " 0", "0 1", "0\n", "\n", "\n0", "0\x00", "\x000", "\x00", "\x80", "0\xff", "\xb0", "\xaf", "0é", "1/a/2", "tower/floor[3]", "1\\2", "٣", "０", "／", "0/1/２", "0x1", "1e3", "1_0", "0\u0130", "\u0230", "\u012f"}
	for b := range 256 {
		if b < '/' || b > '9' {
			s := string([]byte{byte(b)})
			list = append(list, s, "1/2"+s, s+"1/2", "1"+s+"2", strings.Repeat("0", 199)+s)
		}
	}
	for _, n := range []int{201, 202, 255, 256, 257, 400, 456, 1000, 100000} {
		for _, s := range []string{"0", "/", "1/", "12/345"} {
			list = append(list, strings.Repeat(s, n)[:n])
		}
	}
	return append(list, strings.Repeat("0", 200)+" ", strings.Repeat("/", 200)+"\x00")
}
