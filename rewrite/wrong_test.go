package rewrite_test

import (
	"slices"
	"strings"

	"gambrel/api"
)

// wrong are rules with their error.
type wrong struct {
	rules []rule
	e     api.Errno
	why   string
}

// wrongRules returns single rules that are not valid, with what is wrong with them.
func wrongRules() map[string][]rule {
	return map[string][]rule{
		"name":    wrongNames(),
		"arity":   wrongArities(),
		"context": wrongContexts(),
		"guard":   wrongGuards(),
		"shape":   wrongShapes(),
		"out":     wrongBrackets(),
	}
}

func wrongNames() []rule {
	var list []rule
	for b := range 256 {
		if name := byte(b); strings.IndexByte(names, name) < 0 {
			list = append(list, rule{Name: name}, letters(name, "F"), to(name, 1, put('F', sum(0, 1))), when(letters(name, "F"), sum(1)), letters(name, "[]"))
		}
	}
	return append(list, letters('[', "["), letters(']', "]"), letters('[', "F"), letters('[', ""), letters(']', ""))
}

// wrongArities returns rules that are only wrong as their Arity is: where it is positive, forms have as many Coefs.
func wrongArities() []rule {
	var list []rule
	for _, arity := range []int{-1, -2, -4, 5, 6, 8, 16, 255, 256, 257, 260, -256, -255} {
		many := slices.Repeat([]int{1}, max(arity, 0))
		list = append(list, to('A', arity), to('A', arity, put('F')), to('A', arity, put('F', sum(0, many...))), when(to('A', arity), sum(0, many...)), when(to('A', arity), sum(0)), to('A', arity, put('F', sum(0))))
	}
	for _, arity := range integers {
		list = append(list, to('A', arity), to('A', arity, put('F')), to('A', arity, put('F', sum(0))), when(to('A', arity), sum(0)))
	}
	return list
}

func wrongContexts() []rule {
	var list []rule
	for b := 1; b < 256; b++ {
		list = append(list, rule{Name: 'A', Left: byte(b)}, rule{Name: 'A', Right: byte(b)}, rule{Name: 'A', Arity: 1, Left: byte(b), Right: byte(b), Out: bare("F")})
	}
	for _, weight := range append([]int{1, -1, 2, 7, 100, 256, -256, api.MaxLot, -api.MaxLot, api.MaxLot + 1}, integers...) {
		list = append(list, rule{Name: 'A', Weight: weight}, rule{Name: 'A', Weight: weight, Out: bare("F")})
	}
	return list
}

// wrongForms returns forms that are not valid for an arity.
func wrongForms(arity int) []form {
	zeros := make([]int, arity)
	var list []form
	for n := range 7 {
		if n != arity {
			list = append(list, sum(0, make([]int, n)...), sum(1, slices.Repeat([]int{1}, n)...))
		}
	}
	list = append(list, sum(0, make([]int, 1000)...))
	for _, n := range beside(api.MaxCoef) {
		list = append(list, sum(n, zeros...))
		for at := range arity {
			f := sum(0, slices.Clone(zeros)...)
			f.Coefs[at] = n
			list = append(list, f)
		}
	}
	return list
}

func wrongGuards() []rule {
	var list []rule
	for arity := range api.MaxArgs + 1 {
		fine := sum(0, make([]int, arity)...)
		for _, f := range wrongForms(arity) {
			list = append(list, when(to('A', arity), f), when(to('A', arity, put('F')), f, fine, fine, fine), when(to('A', arity), fine, f, fine), when(to('A', arity, put('F', fine)), fine, fine, fine, f))
		}
	}
	return list
}

func wrongShapes() []rule {
	var list []rule
	for arity := range api.MaxArgs + 1 {
		fine := sum(0, make([]int, arity)...)
		for _, f := range wrongForms(arity) {
			list = append(list, to('A', arity, put('F', f)), to('A', arity, put('F', f, fine, fine, fine)), to('A', arity, put('F', fine, fine, f, fine)), to('A', arity, put('F', fine, fine, fine, f)))
			list = append(list, to('A', arity, put('F'), put('['), put('G', f), put(']'), put('F', fine)), to('A', arity, append(shapesOf(19, arity), put('F', fine, f))...))
		}
		for _, n := range []int{1, 2, 4, 5} {
			args := slices.Repeat([]form{fine}, n)
			list = append(list, to('A', arity, put('[', args...), put(']')), to('A', arity, put('['), put(']', args...)), to('A', arity, put('[', args...), put(']', args...)))
		}
		for _, n := range []int{5, 6, 8, 256, 257, 100000} {
			args := slices.Repeat([]form{fine}, n)
			list = append(list, to('A', arity, put('F', args...)), to('A', arity, put('G'), put('+', args...)), to('A', arity, append(shapesOf(19, arity), put('F', args...))...))
		}
	}
	for b := range 256 {
		if name := byte(b); strings.IndexByte(names+"[]", name) < 0 {
			list = append(list, to('A', 0, put(name)), to('A', 1, put('F'), put(name, sum(0, 1))), to('A', 0, put('['), put(name), put(']')), to('A', 0, append(shapesOf(19, 0), put(name))...))
		}
	}
	return list
}

// wrongBrackets returns rules whose Out is no word only as the brackets do not match.
func wrongBrackets() []rule {
	var list []rule
	for _, s := range append(bracketed(7), strings.Repeat("[", 20), strings.Repeat("]", 20), strings.Repeat("[]", 9)+"][", "]"+strings.Repeat("[]", 9)+"[", strings.Repeat("[", 11)+strings.Repeat("]", 9), strings.Repeat("[", 10)+strings.Repeat("]", 9), strings.Repeat("[]", 9)+"[", strings.Repeat("F", 19)+"[", strings.Repeat("F", 19)+"]") {
		if !matching(s) {
			list = append(list, letters('A', s))
		}
	}
	return append(list, to('A', 1, put('['), put('F', sum(0, 1))), to('A', 1, put('F', sum(0, 1)), put(']')))
}

// bracketed returns all strings of at most so many bytes F, [ and ].
func bracketed(length int) []string {
	list := []string{""}
	for at := 0; len(list[at]) < length; at++ {
		list = append(list, list[at]+"F", list[at]+"[", list[at]+"]")
	}
	return list
}

// crowded returns single rules with too many guards or shapes. Some are wrong otherwise, too.
func crowded() []rule {
	var list []rule
	for _, n := range []int{5, 6, 8, 256, 257, 1000} {
		guards := slices.Repeat([]form{sum(0)}, n)
		list = append(list, when(letters('A', "F"), guards...), when(letters('A', ""), guards...), when(letters('#', "]"), guards...), rule{Name: '[', Arity: -1, Left: 'A', Weight: 1, Guards: guards})
		list = append(list, when(to('A', 1), guards...), when(to('A', 0), slices.Repeat([]form{sum(api.MaxCoef + 1)}, n)...), when(to('A', 2), make([]form, n)...))
	}
	for _, n := range []int{21, 22, 40, 256, 257, 276, 1000} {
		list = append(list, letters('A', strings.Repeat("F", n)), letters('A', strings.Repeat("[", n)), letters('A', "["+strings.Repeat("F", n-2)+"]"), to('A', 2, shapesOf(n, 2)...), to('A', 0, make([]shape, n)...))
		list = append(list, letters('#', strings.Repeat("F", n)), rule{Name: 'A', Arity: 9, Out: bare(strings.Repeat("F", n))}, rule{Name: 'A', Right: 'A', Out: bare(strings.Repeat("F", n))}, to('A', 0, shapesOf(n, 3)...), when(letters('A', strings.Repeat("]", n)), sum(0, 1)))
	}
	return append(list, when(letters('A', strings.Repeat("F", 21)), slices.Repeat([]form{sum(0)}, 5)...))
}

// wrongs returns lists of rules that are not valid: with one that is not, alone and among others, and with too many.
func wrongs() []wrong {
	var list []wrong
	few, most := tree(), largest()[:39]
	add := func(r rule, e api.Errno, why string, k int) {
		list = append(list, wrong{[]rule{r}, e, why})
		if k%5 == 0 {
			list = append(list, wrong{slices.Concat(few, []rule{r}), e, why + " behind"}, wrong{slices.Concat([]rule{r}, few), e, why + " before"}, wrong{slices.Concat(few[:1], []rule{r}, few[1:]), e, why + " between"})
		}
		if k%101 == 0 {
			list = append(list, wrong{slices.Concat(most, []rule{r}), e, why + " at the end"}, wrong{slices.Concat([]rule{r}, most), e, why + " at the beginning"})
		}
	}
	for why, rules := range wrongRules() {
		for k, r := range rules {
			add(r, api.ErrBad, why, k)
		}
	}
	for k, r := range crowded() {
		add(r, api.ErrMany, "many", k)
	}
	for _, n := range []int{41, 42, 80, 256, 257, 296, 10000} {
		for _, r := range []rule{letters('A', "F"), letters('#', "F"), letters('A', "["), {}, letters('A', strings.Repeat("F", 21)), {Name: 'A', Arity: -1}} {
			list = append(list, wrong{slices.Repeat([]rule{r}, n), api.ErrMany, "many rules"})
		}
	}
	list = append(list, wrong{append(largest(), letters('A', "F")), api.ErrMany, "one more rule"}, wrong{make([]rule, 40), api.ErrBad, "empty rules"}, wrong{make([]rule, 41), api.ErrMany, "empty rules"})
	return list
}

// fewWrongs returns some lists of rules that are not valid, for each error.
func fewWrongs() []wrong {
	return []wrong{
		{[]rule{letters('#', "F")}, api.ErrBad, "name"}, {[]rule{letters('[', "F")}, api.ErrBad, "bracket"}, {[]rule{to('A', -1)}, api.ErrBad, "arity"}, {[]rule{to('A', 5)}, api.ErrBad, "arity"}, {[]rule{{Name: 'A', Weight: 1}}, api.ErrBad, "weight"}, {[]rule{{Name: 'A', Left: 'B'}}, api.ErrBad, "left"},
		{[]rule{when(to('A', 1), sum(0))}, api.ErrBad, "guard"}, {[]rule{when(to('A', 0), sum(0, 1))}, api.ErrBad, "guard"}, {[]rule{letters('A', "]")}, api.ErrBad, "out"}, {[]rule{to('A', 2, put('F', sum(0, 1)))}, api.ErrBad, "form"}, {append(tree(), letters('B', "[")), api.ErrBad, "out behind"},
		{slices.Repeat([]rule{letters('A', "A")}, 41), api.ErrMany, "rules"}, {[]rule{letters('A', strings.Repeat("A", 21))}, api.ErrMany, "shapes"}, {[]rule{when(letters('A', "A"), make([]form, 5)...)}, api.ErrMany, "guards"}, {make([]rule, 41), api.ErrMany, "empty rules"},
	}
}
