package expr

import (
	"strings"

	"gambrel/api"
	"gambrel/value"
)

// Same reports whether a and b are identical, whether they are valid or not.
func Same(a, b api.Expr) bool {
	// Expressions that contain themselves are known again by their places, so that it ends.
	met := map[[2]*api.Expr]bool{}
	var same func(a, b *api.Expr) bool
	same = func(a, b *api.Expr) bool {
		pair := [2]*api.Expr{a, b}
		// Two that were met are the same, or are found to differ where they were met first.
		if met[pair] {
			return true
		}
		met[pair] = true
		if a.Op != b.Op || a.Name != b.Name || len(a.Args) != len(b.Args) || !value.Same(a.Value, b.Value) {
			return false
		}
		for i := range a.Args {
			if !same(&a.Args[i], &b.Args[i]) {
				return false
			}
		}
		return true
	}
	return same(&a, &b)
}

// Twin returns a copy of e, whether it is valid or not.
func Twin(e api.Expr) api.Expr {
	// The Args of the copies of the expressions that are being copied, by their places.
	open := map[*api.Expr][]api.Expr{}
	endless := false
	var twin func(e *api.Expr) api.Expr
	twin = func(e *api.Expr) api.Expr {
		args, inside := open[e]
		if inside {
			endless = true
		} else if len(e.Args) > 0 {
			args = make([]api.Expr, len(e.Args))
			open[e] = args
			for i := range e.Args {
				args[i] = twin(&e.Args[i])
			}
			// What contains itself is copied only once from there on, as the ways through it may be too many.
			if !endless {
				delete(open, e)
			}
		}
		return api.Expr{Op: e.Op, Value: value.Twin(e.Value), Name: strings.Clone(e.Name), Args: args}
	}
	return twin(&e)
}
