package chance

import (
	"strings"

	"gambrel/api"
	"gambrel/rewrite"
	"gambrel/word"
)

// proper reports whether a cell may have path as its path.
func proper(path string) bool {
	if len(path) < 1 || len(path) > api.MaxPath {
		return false
	}
	for i := range len(path) {
		if digit := path[i] >= '0' && path[i] <= '9'; !digit && path[i] != '/' {
			return false
		}
	}
	return true
}

// valid reports whether m is a valid module. Layer 7 tells it without a word around m, which a bracket alone is not.
func valid(m api.Module) bool {
	_, e := rewrite.Find(nil, m)
	return e == api.OK
}

// modules returns the modules of cells, with the same memory for their Args.
func modules(l []api.Cell) []api.Module {
	var w []api.Module
	for _, c := range l {
		w = append(w, c.Module)
	}
	return w
}

// twins returns a copy of cells.
func twins(l []api.Cell) []api.Cell {
	var fresh []api.Cell
	for _, c := range l {
		fresh = append(fresh, twin(c))
	}
	return fresh
}

func twin(c api.Cell) api.Cell {
	return api.Cell{Path: strings.Clone(c.Path), Module: word.Twin([]api.Module{c.Module})[0]}
}
