package label

import (
	"cmp"
	"strings"

	"gambrel/api"
)

// none is the index of a step without one. It is less than all indices, as such a step comes before those with one.
const none = -1

type step struct {
	name  string
	index int
}

// parse returns the parts of the step with a text, and whether it is one.
func parse(text string) (step, bool) {
	name, rest, indexed := strings.Cut(text, "[")
	if !Name(name) {
		return step{}, false
	}
	if !indexed {
		return step{name, none}, true
	}
	digits, closed := strings.CutSuffix(rest, "]")
	index, ok := number(digits)
	if !closed || !ok {
		return step{}, false
	}
	return step{name, index}, true
}

// number returns the index that is written as s, and whether there is one.
func number(s string) (int, bool) {
	if s == "" || s[0] == '0' && s != "0" {
		return 0, false
	}
	n := 0
	for _, digit := range s {
		if digit < '0' || digit > '9' {
			return 0, false
		}
		n = n*10 + int(digit-'0')
		// At once, as more digits might not fit into an int.
		if n > api.MaxIndex {
			return 0, false
		}
	}
	return n, true
}

func (s step) compare(t step) int {
	return cmp.Or(cmp.Compare(s.name, t.name), cmp.Compare(s.index, t.index))
}
