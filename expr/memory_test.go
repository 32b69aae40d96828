package expr_test

import (
	"fmt"
	"reflect"
	"slices"
	"strings"
	"testing"
	"unsafe"

	"gambrel/api"
	"gambrel/expr"
)

// fresh returns a copy of which no two parts share memory: its slices have room behind their elements.
func fresh[T any](x T) T {
	return copied(reflect.ValueOf(x)).Interface().(T)
}

func copied(x reflect.Value) reflect.Value {
	c := reflect.New(x.Type()).Elem()
	switch x.Kind() {
	case reflect.Struct:
		for i := range x.NumField() {
			c.Field(i).Set(copied(x.Field(i)))
		}
	case reflect.Slice:
		if x.IsNil() {
			break
		}
		c.Set(reflect.MakeSlice(x.Type(), x.Len(), x.Len()+3))
		for i := range x.Len() {
			c.Index(i).Set(copied(x.Index(i)))
		}
	case reflect.String:
		c.SetString(strings.Clone(x.String()))
	default:
		c.Set(x)
	}
	return c
}

// dump writes all that is in the memory of x, with what is behind the elements of slices.
func dump(x any) string {
	var write func(x reflect.Value) string
	write = func(x reflect.Value) string {
		switch x.Kind() {
		case reflect.Struct:
			s := "{"
			for i := range x.NumField() {
				s += write(x.Field(i)) + " "
			}
			return s + "}"
		case reflect.Slice:
			s := fmt.Sprint("[", x.IsNil(), x.Len(), ":")
			for i := range x.Cap() {
				s += write(x.Slice(0, x.Cap()).Index(i)) + " "
			}
			return s + "]"
		}
		return fmt.Sprintf("%#v", x.Interface())
	}
	return write(reflect.ValueOf(x))
}

// area is a piece of memory.
type area struct{ from, to uintptr }

// areas returns where the strings and slices of x lie, with the capacity of the slices.
func areas(x reflect.Value) []area {
	var all []area
	switch x.Kind() {
	case reflect.Struct:
		for i := range x.NumField() {
			all = append(all, areas(x.Field(i))...)
		}
	case reflect.Slice:
		if x.Cap() > 0 {
			from := uintptr(x.UnsafePointer())
			all = append(all, area{from, from + uintptr(x.Cap())*x.Type().Elem().Size()})
		}
		for i := range x.Len() {
			all = append(all, areas(x.Index(i))...)
		}
	case reflect.String:
		if s := x.String(); s != "" {
			from := uintptr(unsafe.Pointer(unsafe.StringData(s)))
			all = append(all, area{from, from + uintptr(len(s))})
		}
	}
	return all
}

// apart reports whether no two parts of all that is given share memory.
func apart(given ...any) bool {
	var all []area
	for _, x := range given {
		all = append(all, areas(reflect.ValueOf(x))...)
	}
	slices.SortFunc(all, func(p, q area) int { return int(p.from) - int(q.from) })
	for i := 1; i < len(all); i++ {
		if all[i].from < all[i-1].to {
			return false
		}
	}
	return true
}

// small returns valid expressions in which something can be found.
func small(t *testing.T) []exp {
	var all []exp
	for _, s := range []string{
		"xx", `"abc"`, `[xx, yy, xx, "abc"]`, "if(true, [xx, yy], (1 / 0))", "if(xx, yy, [xx])", "([1, xx] + [yy])", "[[[1], \"abc\"], [2]]", `([["abc"]] + ["abc"])`, `at([["abc", [1]], 2], 0)`, `min(["abc", "de"], ["abc"])`,
		`(("abc" + "de") + xx)`, "min(xx, yy)", "at(xx, 0)", "at(yy, 0)", "[[], []]", "not((xx = yy))", "if((1 < 2), if(true, yy, xx), 1)",
	} {
		all = append(all, parse(t, s))
	}
	return all
}

// binds returns valid binds of xx and yy.
func binds() [][]api.Bind {
	abc, inner := str("abc"), list(str("de"), list(whole(1)))
	return [][]api.Bind{
		{bind("xx", abc), bind("yy", str("de"))},
		{bind("xx", list(abc, inner)), bind("yy", list(inner, inner, inner))},
		{bind("zz", abc), bind("xx", truth(true)), bind("yy", inner), bind("xx", abc)},
	}
}

func TestArgumentsAreOnlyRead(t *testing.T) {
	for _, e := range append(small(t), bad()[:20]...) {
		for _, env := range binds() {
			if expr.Check(e) == api.OK && !apart(fresh(e), fresh(env)) {
				t.Error(show(e), "shares memory")
			}
			e, env := fresh(e), fresh(env)
			before := dump(e) + dump(env)
			expr.Check(e)
			expr.Eval(e, env)
			expr.Names(e)
			for _, b := range env {
				expr.Bind(e, b.Name, b.Value)
			}
			expr.Fold(e)
			expr.Same(e, e)
			expr.Twin(e)
			expr.Text(e)
			if dump(e)+dump(env) != before {
				t.Error(show(e))
			}
		}
	}
}

func TestResultsShareNoMemory(t *testing.T) {
	for _, e := range small(t) {
		for _, env := range binds() {
			e, env := fresh(e), fresh(env)
			results := []any{e, env}
			for range 2 {
				v, _ := expr.Eval(e, env)
				names, _ := expr.Names(e)
				results = append(results, v, names, expr.Twin(e))
				for _, b := range env {
					bound, _ := expr.Bind(e, b.Name, b.Value)
					results = append(results, bound)
				}
				f, _ := expr.Fold(e)
				text, _ := expr.Text(e)
				results = append(results, f, text)
				parsed, _ := expr.Parse(text)
				results = append(results, parsed)
			}
			if !apart(results...) {
				t.Error(show(e), "shares memory")
			}
		}
	}
}

// Parts of an argument may lie in the same place; those of a result have places of their own.
func TestPartsOfResultsShareNoMemory(t *testing.T) {
	inner := op(api.OpList, name("xx"), fixed(str("abc")), op(api.OpList, fixed(whole(1))))
	e := row(inner, 3)
	v := list(str("abc"), list(whole(1)))
	env := []api.Bind{bind("xx", list(v, v))}
	worth, _ := expr.Eval(e, env)
	folded, _ := expr.Fold(e)
	bound, _ := expr.Bind(e, "xx", env[0].Value)
	for _, x := range []any{worth, folded, bound, expr.Twin(e)} {
		if !apart(x) {
			t.Error(show(x))
		}
	}
}

func TestNothingIsKept(t *testing.T) {
	first, _ := expr.Parse("[[1], x]")
	first.Args[0].Args[0] = name("changed")
	first.Args[1] = name("changed")
	if second, e := expr.Parse("[[1], x]"); !is(second, e, op(api.OpList, op(api.OpList, fixed(whole(1))), name("x"))) {
		t.Error(show(second), e)
	}
}
