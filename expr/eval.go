package expr

import (
	"gambrel/api"
	"gambrel/label"
	"gambrel/ratio"
	"gambrel/value"
)

// Eval returns the value of e, in which names stand for what they are bound to.
func Eval(e api.Expr, env []api.Bind) (api.Value, api.Errno) {
	return attempt(func() api.Value {
		demand(Check(e))
		demand(checkBinds(env))
		return value.Twin(eval(e, env))
	})
}

func checkBinds(env []api.Bind) api.Errno {
	if len(env) > api.MaxBinds {
		return api.ErrMany
	}
	for _, bind := range env {
		if !label.Name(bind.Name) || value.Check(bind.Value) != api.OK {
			return api.ErrBad
		}
	}
	return api.OK
}

// eval returns the value of a valid expression, which may share memory with it and with env.
func eval(e api.Expr, env []api.Bind) api.Value {
	switch e.Op {
	case api.OpValue:
		return e.Value
	case api.OpName:
		return find(e.Name, env)
	case api.OpIf:
		if truthOf(eval(e.Args[0], env)) {
			return eval(e.Args[1], env)
		}
		return eval(e.Args[2], env)
	}
	var args []api.Value
	for _, arg := range e.Args {
		args = append(args, eval(arg, env))
	}
	return apply(e.Op, args)
}

func find(name string, env []api.Bind) api.Value {
	for _, bind := range env {
		if bind.Name == name {
			return bind.Value
		}
	}
	panic(api.ErrNone)
}

// apply returns the value of an operation on the values of its Args.
func apply(op uint8, args []api.Value) api.Value {
	switch op {
	case api.OpAdd:
		return must(value.Add(args[0], args[1]))
	case api.OpSub, api.OpMul, api.OpDiv, api.OpFloor:
		return calculate(op, args)
	case api.OpSame:
		return truth(value.Same(args[0], args[1]))
	case api.OpLess, api.OpMin, api.OpMax:
		return compare(op, args[0], args[1])
	case api.OpAnd, api.OpOr, api.OpNot:
		return decide(op, args)
	case api.OpLen:
		return whole(int64(must(value.Len(args[0]))))
	case api.OpAt:
		return at(args[0], args[1])
	}
	return list(args)
}

// calculate returns the value of an operation on numbers.
func calculate(op uint8, args []api.Value) api.Value {
	var numbers []api.Ratio
	for _, arg := range args {
		numbers = append(numbers, numberOf(arg))
	}
	switch op {
	case api.OpFloor:
		return whole(must(ratio.Floor(numbers[0])))
	case api.OpSub:
		return number(must(ratio.Sub(numbers[0], numbers[1])))
	case api.OpMul:
		return number(must(ratio.Mul(numbers[0], numbers[1])))
	}
	return number(must(ratio.Div(numbers[0], numbers[1])))
}

// compare returns the value of an operation that tells which of two values comes first.
func compare(op uint8, a, b api.Value) api.Value {
	order := must(value.Compare(a, b))
	switch op {
	case api.OpLess:
		return truth(order == -1)
	case api.OpMax:
		// The greatest value is the least one in the opposite order.
		order = -order
		fallthrough
	case api.OpMin:
		if order == 1 {
			return b
		}
	}
	return a
}

// decide returns the value of an operation on truth values.
func decide(op uint8, args []api.Value) api.Value {
	var truths []bool
	for _, arg := range args {
		truths = append(truths, truthOf(arg))
	}
	switch op {
	case api.OpNot:
		return truth(!truths[0])
	case api.OpAnd:
		return truth(truths[0] && truths[1])
	}
	return truth(truths[0] || truths[1])
}

func at(v, index api.Value) api.Value {
	// An error of the kind of v comes before one of the index.
	must(value.Len(v))
	n := numberOf(index)
	if n.Den != 1 {
		panic(api.ErrArg)
	}
	return must(value.At(v, int(n.Num)))
}

func list(elements []api.Value) api.Value {
	v := api.Value{Kind: api.KindList, List: elements}
	demand(value.Check(v))
	return v
}

func number(n api.Ratio) api.Value {
	return api.Value{Kind: api.KindNumber, Num: n}
}

func whole(n int64) api.Value {
	return must(value.Number(n, 1))
}

func truth(b bool) api.Value {
	return api.Value{Kind: api.KindTruth, Truth: b}
}

func numberOf(v api.Value) api.Ratio {
	if v.Kind != api.KindNumber {
		panic(api.ErrKind)
	}
	return v.Num
}

func truthOf(v api.Value) bool {
	if v.Kind != api.KindTruth {
		panic(api.ErrKind)
	}
	return v.Truth
}
