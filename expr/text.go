package expr

import (
	"strings"

	"gambrel/api"
	"gambrel/value"
)

// many stands for any number of Args.
const many = -1

// form is how many Args an operation has, and what stands before, between and behind them in its text.
type form struct {
	args                   int
	before, between, after string
}

// forms has the form of each operation; values and names have none.
var forms = [...]form{
	api.OpValue: {},
	api.OpName:  {},
	api.OpAdd:   {2, "(", " + ", ")"},
	api.OpSub:   {2, "(", " - ", ")"},
	api.OpMul:   {2, "(", " * ", ")"},
	api.OpDiv:   {2, "(", " / ", ")"},
	api.OpLess:  {2, "(", " < ", ")"},
	api.OpSame:  {2, "(", " = ", ")"},
	api.OpAnd:   {2, "(", " and ", ")"},
	api.OpOr:    {2, "(", " or ", ")"},
	api.OpNot:   {1, "not(", ", ", ")"},
	api.OpIf:    {3, "if(", ", ", ")"},
	api.OpMin:   {2, "min(", ", ", ")"},
	api.OpMax:   {2, "max(", ", ", ")"},
	api.OpFloor: {1, "floor(", ", ", ")"},
	api.OpLen:   {1, "len(", ", ", ")"},
	api.OpAt:    {2, "at(", ", ", ")"},
	api.OpList:  {many, "[", ", ", "]"},
}

// Text returns the text of e.
func Text(e api.Expr) (string, api.Errno) {
	return attempt(func() string {
		demand(Check(e))
		s := text(e)
		if len(s) > api.MaxText {
			panic(api.ErrMany)
		}
		return s
	})
}

// Parse returns the valid expression whose text is s.
func Parse(s string) (api.Expr, api.Errno) {
	return attempt(func() api.Expr {
		// First of all, as each bracket is read one level deeper.
		if len(s) > api.MaxText {
			panic(api.ErrForm)
		}
		r := reader{s}
		e := r.expr()
		if r.rest != "" || Check(e) != api.OK {
			panic(api.ErrForm)
		}
		return Twin(e)
	})
}

func text(e api.Expr) string {
	switch e.Op {
	case api.OpValue:
		return must(value.Text(e.Value))
	case api.OpName:
		return strings.Clone(e.Name)
	}
	var args []string
	for _, arg := range e.Args {
		args = append(args, text(arg))
	}
	f := forms[e.Op]
	return f.before + strings.Join(args, f.between) + f.after
}

// reader takes expressions from the front of a text. It takes some that are not valid, too.
type reader struct {
	rest string
}

// expr takes an expression.
func (r *reader) expr() api.Expr {
	if r.skip("(") {
		return r.infix()
	}
	for op, f := range forms {
		if f.before != "" && r.skip(f.before) {
			return api.Expr{Op: uint8(op), Args: r.args(f)}
		}
	}
	word := r.word()
	if v, e := value.Parse(word); e == api.OK {
		return api.Expr{Op: api.OpValue, Value: v}
	}
	return api.Expr{Op: api.OpName, Name: word}
}

// infix takes an expression behind its parenthesis.
func (r *reader) infix() api.Expr {
	first := r.expr()
	for op, f := range forms {
		if f.before == "(" && r.skip(f.between) {
			second := r.expr()
			r.need(f.after)
			return api.Expr{Op: uint8(op), Args: []api.Expr{first, second}}
		}
	}
	panic(api.ErrForm)
}

// args takes the Args of an operation, and what stands behind them.
func (r *reader) args(f form) []api.Expr {
	if r.skip(f.after) {
		return nil
	}
	var args []api.Expr
	for {
		args = append(args, r.expr())
		if r.skip(f.after) {
			return args
		}
		r.need(f.between)
	}
}

// word takes a string, or all up to what may stand behind a name or a number.
func (r *reader) word() string {
	end := strings.IndexAny(r.rest, " ,)]")
	if strings.HasPrefix(r.rest, `"`) {
		end = closing(r.rest)
	}
	if end < 0 {
		end = len(r.rest)
	}
	word := r.rest[:end]
	r.rest = r.rest[end:]
	return word
}

// closing returns where the string at the beginning of s ends, or -1.
func closing(s string) int {
	escaped := false
	for at, c := range s[1:] {
		switch {
		case escaped:
			escaped = false
		case c == '\\':
			escaped = true
		case c == '"':
			return at + len(`""`)
		}
	}
	return -1
}

// skip takes s, and reports whether it stands there.
func (r *reader) skip(s string) bool {
	rest, found := strings.CutPrefix(r.rest, s)
	r.rest = rest
	return found
}

// need takes s, which must stand there.
func (r *reader) need(s string) {
	if !r.skip(s) {
		panic(api.ErrForm)
	}
}
