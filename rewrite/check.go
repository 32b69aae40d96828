package rewrite

import (
	"gambrel/api"
	"gambrel/word"
)

// Check returns ErrMany if there are too many rules, guards or shapes, and then ErrBad if the rules are not valid.
func Check(rules []api.Rewrite) api.Errno {
	if len(rules) > api.MaxRules {
		return api.ErrMany
	}
	for _, r := range rules {
		if len(r.Guards) > api.MaxGuards || len(r.Out) > api.MaxOut {
			return api.ErrMany
		}
	}
	for _, r := range rules {
		if !valid(r) {
			return api.ErrBad
		}
	}
	return api.OK
}

// valid reports whether r is valid, but for the numbers of its guards and shapes.
func valid(r api.Rewrite) bool {
	if !letter(r.Name) || r.Arity < 0 || r.Arity > api.MaxArgs || r.Left != 0 || r.Right != 0 || r.Weight != 0 {
		return false
	}
	if !allFormed(r.Guards, r.Arity) || word.Check(blank(r.Out)) != api.OK {
		return false
	}
	for _, s := range r.Out {
		if !allFormed(s.Args, r.Arity) {
			return false
		}
	}
	return true
}

// letter reports whether name is that of a module, but no bracket: a bracket alone is no word.
func letter(name byte) bool {
	return word.Check([]api.Module{{Name: name}}) == api.OK
}

// blank returns the modules of shapes with 0 for each of their Args, so that they are a word if names, brackets and the numbers of Args are as they should be.
func blank(out []api.Shape) []api.Module {
	var w []api.Module
	for _, s := range out {
		// One Arg too many is as wrong as thousands.
		n := min(len(s.Args), api.MaxArgs+1)
		w = append(w, api.Module{Name: s.Name, Args: make([]int, n)})
	}
	return w
}

func allFormed(forms []api.Form, arity int) bool {
	for _, f := range forms {
		if !formed(f, arity) {
			return false
		}
	}
	return true
}

// formed reports whether f is valid for a number of arguments.
func formed(f api.Form, arity int) bool {
	if len(f.Coefs) != arity || !within(f.Const, api.MaxCoef) {
		return false
	}
	for _, coef := range f.Coefs {
		if !within(coef, api.MaxCoef) {
			return false
		}
	}
	return true
}

// within reports whether n is from -most to most.
func within(n, most int) bool {
	return -most <= n && n <= most
}
