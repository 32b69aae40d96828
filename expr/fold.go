package expr

import (
	"gambrel/api"
	"gambrel/value"
)

// Bind returns e with the expression of v in the place of each part with the name.
func Bind(e api.Expr, name string, v api.Value) (api.Expr, api.Errno) {
	return attempt(func() api.Expr {
		demand(Check(e))
		if !free(name) || value.Check(v) != api.OK {
			panic(api.ErrBad)
		}
		bound := replace(e, name, constant(v))
		// Only its size can be wrong.
		demand(Check(bound))
		return Twin(bound)
	})
}

// Fold returns e, in which all that can be calculated without names is calculated.
func Fold(e api.Expr) (api.Expr, api.Errno) {
	return attempt(func() api.Expr {
		demand(Check(e))
		return Twin(fold(e))
	})
}

// constant returns the expression of a value.
func constant(v api.Value) api.Expr {
	if v.Kind != api.KindList {
		return api.Expr{Op: api.OpValue, Value: v}
	}
	e := api.Expr{Op: api.OpList}
	for _, element := range v.List {
		e.Args = append(e.Args, constant(element))
	}
	return e
}

func replace(e api.Expr, name string, by api.Expr) api.Expr {
	if e.Op == api.OpName && e.Name == name {
		return by
	}
	return inside(e, func(arg api.Expr) api.Expr {
		return replace(arg, name, by)
	})
}

func fold(e api.Expr) api.Expr {
	e = inside(e, fold)
	// A condition without names that has a value was replaced by the value.
	if e.Op == api.OpIf && e.Args[0].Value.Kind == api.KindTruth {
		if e.Args[0].Value.Truth {
			return e.Args[1]
		}
		return e.Args[2]
	}
	// A part with names has no value without binds, as all that is not evaluated is taken out by now.
	v, fault := attempt(func() api.Value {
		return eval(e, nil)
	})
	if fault != api.OK {
		return e
	}
	return constant(v)
}

// inside returns e with what change makes of its Args.
func inside(e api.Expr, change func(arg api.Expr) api.Expr) api.Expr {
	var args []api.Expr
	for _, arg := range e.Args {
		args = append(args, change(arg))
	}
	e.Args = args
	return e
}
