package context_test

import (
	"slices"
	"strings"

	"gambrel/api"
)

// wrongRules returns single rules that are not valid, of each kind of fault.
func wrongRules() []rule {
	return slices.Concat(wrongNames(), wrongNumbers(), wrongForms(), wrongShapes(), wrongNeighbours())
}

func wrongNames() []rule {
	var list []rule
	for b := range 256 {
		if name := byte(b); strings.IndexByte(names, name) < 0 {
			list = append(list, rule{Name: name}, letters(name, "F"), beside('A', letters(name, "[F]"), 'B'))
		}
	}
	return append(list, letters('[', "["), letters(']', "]"))
}

// wrongNumbers returns rules that are only wrong in their Arity or Weight: where the Arity is positive, forms have as many Coefs.
func wrongNumbers() []rule {
	var list []rule
	for _, arity := range []int{-1, -2, -4, 5, 6, 8, 256, 257, -256} {
		many := slices.Repeat([]int{1}, max(arity, 0))
		list = append(list, to('A', arity), to('A', arity, put('F', sum(0, many...))), when(to('A', arity), sum(0, many...)), beside('A', to('A', arity), 0))
	}
	for _, weight := range []int{1, -1, 2, 100, 256, api.MaxLot, api.MaxLot + 1} {
		list = append(list, rule{Name: 'A', Weight: weight}, beside(0, rule{Name: 'A', Weight: weight}, 'A'))
	}
	for _, n := range integers {
		list = append(list, to('A', n), to('A', n, put('F', sum(0))), rule{Name: 'A', Weight: n})
	}
	return list
}

// wrongForms returns rules with a guard, or an Arg of a shape, that is not valid.
func wrongForms() []rule {
	var list []rule
	for arity := range api.MaxArgs + 1 {
		fine := sum(0, make([]int, arity)...)
		add := func(f form) {
			list = append(list, when(to('A', arity), f), when(to('A', arity), fine, fine, fine, f), to('A', arity, put('F', f)), to('A', arity, put('['), put('F', fine, fine, fine, f), put(']')), beside('A', to('A', arity, put('F'), put('F', f)), 'A'))
		}
		for n := range 7 {
			if n != arity {
				add(sum(0, make([]int, n)...))
			}
		}
		for _, n := range append([]int{api.MaxCoef + 1, -api.MaxCoef - 1, 2 * api.MaxCoef, api.MaxArg}, integers...) {
			add(sum(n, make([]int, arity)...))
			for at := range arity {
				f := sum(0, make([]int, arity)...)
				f.Coefs[at] = n
				add(f)
			}
		}
	}
	return list
}

// wrongShapes returns rules whose Out has a shape that is not valid, or brackets that do not match.
func wrongShapes() []rule {
	zero := sum(0)
	list := []rule{to('A', 0, put('[', zero), put(']')), to('A', 0, put('['), put(']', zero)), to('A', 0, put('[', zero), put(']', zero)), to('A', 0, put('F', zero, zero, zero, zero, zero)), to('A', 0, put('F'), put('G', slices.Repeat([]form{zero}, 1000)...))}
	for b := range 256 {
		if name := byte(b); strings.IndexByte(names+"[]", name) < 0 {
			list = append(list, to('A', 0, put(name)), to('A', 1, put('F'), put(name, sum(0, 1))), beside('A', to('A', 0, put(name)), 'B'))
		}
	}
	for _, s := range []string{"[", "]", "][", "[[]", "[]]", "F[", "]F", "[F", "F]", "[]][", "]F[", strings.Repeat("[", 20), strings.Repeat("]", 20), strings.Repeat("[]", 9) + "][", strings.Repeat("F", 19) + "["} {
		list = append(list, letters('A', s), beside('A', letters('A', s), 0), beside(0, letters('A', s), 'A'))
	}
	return list
}

// wrongNeighbours returns rules that are only wrong in what they ask for.
func wrongNeighbours() []rule {
	var list []rule
	for b := 1; b < 256; b++ {
		if name := byte(b); strings.IndexByte(names, name) < 0 {
			r := letters('A', "F")
			list = append(list, beside(name, r, 0), beside(0, r, name), beside(name, r, name), beside('A', r, name), beside(name, r, 'A'), beside(name, to('A', 1), 'z'))
		}
	}
	return list
}

// crowdedRules returns single rules with too many guards or shapes. Some are wrong otherwise, too.
func crowdedRules() []rule {
	var list []rule
	for _, n := range []int{5, 6, 8, 256, 257, 1000} {
		guards := slices.Repeat([]form{sum(0)}, n)
		list = append(list, when(letters('A', "F"), guards...), when(letters('#', "]"), guards...), beside('B', when(letters('A', ""), guards...), 'C'), beside('[', when(letters('A', ""), guards...), '#'), when(to('A', 2), make([]form, n)...))
	}
	for _, n := range []int{21, 22, 40, 256, 257, 276, 1000} {
		list = append(list, letters('A', strings.Repeat("F", n)), letters('A', strings.Repeat("[", n)), beside('B', letters('A', strings.Repeat("F", n)), 0), beside(']', letters('A', strings.Repeat("F", n)), ']'), to('A', 9, make([]shape, n)...))
	}
	return list
}

// manyRules returns lists of too many rules.
func manyRules() [][]rule {
	var lists [][]rule
	for _, n := range []int{41, 42, 80, 256, 257, 296, 10000} {
		for _, r := range []rule{letters('A', "F"), beside('A', letters('A', "F"), 'B'), letters('#', "F"), beside('[', letters('A', "F"), 0), {}, letters('A', strings.Repeat("F", 21))} {
			lists = append(lists, slices.Repeat([]rule{r}, n))
		}
	}
	return append(lists, append(largest(), letters('A', "F")))
}

// wrong are rules and what is ignored, with the error of Check.
type wrong struct {
	rules  []rule
	ignore string
	e      api.Errno
}

// fewWrongs returns some wrong arguments of Check, for each fault.
func fewWrongs() []wrong {
	crowded := when(letters('A', "F"), make([]form, 5)...)
	return []wrong{
		{[]rule{letters('#', "F")}, "", api.ErrBad}, {[]rule{letters('[', "F")}, "", api.ErrBad}, {[]rule{to('A', -1)}, "", api.ErrBad}, {[]rule{to('A', 5)}, "", api.ErrBad}, {[]rule{{Name: 'A', Weight: 1}}, "", api.ErrBad}, {[]rule{when(to('A', 1), sum(0))}, "", api.ErrBad}, {[]rule{letters('A', "]")}, "", api.ErrBad}, {[]rule{to('A', 2, put('F', sum(0, 1)))}, "", api.ErrBad}, {append(signal(), letters('B', "[")), "", api.ErrBad},
		{[]rule{beside('[', letters('A', "F"), 0)}, "", api.ErrBad}, {[]rule{beside(0, letters('A', "F"), ']')}, "", api.ErrBad}, {append(signal(), beside('A', letters('A', "F"), '#')), "+", api.ErrBad}, {append(signal(), beside(0xff, letters('C', "F"), 'A')), "", api.ErrBad},
		{nil, "[", api.ErrBad}, {nil, "++", api.ErrBad}, {signal(), "#", api.ErrBad}, {signal(), names[:21], api.ErrBad}, {signal(), "A]", api.ErrBad}, {signal(), "\x00", api.ErrBad}, {[]rule{letters('#', "F")}, "[", api.ErrBad},
		{slices.Repeat([]rule{letters('A', "A")}, 41), "", api.ErrMany}, {make([]rule, 41), "", api.ErrMany}, {[]rule{letters('A', strings.Repeat("A", 21))}, "", api.ErrMany}, {[]rule{crowded}, "", api.ErrMany}, {append(signal(), beside('A', crowded, 'B')), "+", api.ErrMany},
		{[]rule{crowded}, "[", api.ErrMany}, {make([]rule, 41), "++", api.ErrMany}, {append(signal(), beside('[', letters('A', "F"), 0), crowded), names, api.ErrMany},
	}
}

// largest returns valid rules with as many of everything as there may be.
func largest() []rule {
	var rules []rule
	for i := range api.MaxRules {
		r := beside(names[i+2], to(names[i], api.MaxArgs), names[i+9])
		for k := range api.MaxGuards {
			r.Guards = append(r.Guards, sum(api.MaxCoef-k, i, -api.MaxCoef, api.MaxCoef, k))
		}
		for k := range api.MaxOut {
			f := sum(k-api.MaxCoef, -k, api.MaxCoef, -api.MaxCoef, 0)
			r.Out = append(r.Out, put(names[(k+i)%len(names)], f, f, f, f))
		}
		rules = append(rules, r)
	}
	return rules
}

// goods returns lists of valid rules.
func goods() [][]rule {
	return [][]rule{
		nil, {}, signal(), largest(), {letters('A', "")}, {letters('A', "A[B]+")}, {beside('A', letters('A', "A"), 'A')}, {beside('+', letters('-', "!"), '&')}, {beside(0, letters('A', "A"), 'z'), beside('z', letters('A', "A"), 0)},
		slices.Repeat([]rule{beside('A', letters('A', "B"), 0)}, 40), {letters('A', strings.Repeat("F", 20))}, {letters('A', strings.Repeat("[]", 10))}, {when(letters('A', "B"), make([]form, 4)...)},
		{when(beside('B', to('A', 2, put('A', sum(0, 0, 1), sum(api.MaxCoef, -api.MaxCoef, 0)), put('C')), 'C'), sum(-1, 1, 0), sum(0, 0, 1))}, {beside('A', to('A', 4, put('F', sum(1, 1, 1, 1, 1))), 'A'), to('A', 4)},
	}
}
