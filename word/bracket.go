package word

import "gambrel/api"

// Close returns the index of the bracket that belongs to the one with the index i.
func Close(w []api.Module, i int) (int, api.Errno) {
	if e := Check(w); e != api.OK {
		return 0, e
	}
	if i < 0 || i >= len(w) || !bracket(w[i]) {
		return 0, api.ErrArg
	}
	way := 1
	if w[i].Name == ']' {
		way = -1
	}
	open, _ := levels(w)
	other := i + way
	for !bracket(w[other]) || open[other] != open[i] {
		other += way
	}
	return other, api.OK
}

// Depth returns the greatest number of brackets that are open at a time.
func Depth(w []api.Module) (int, api.Errno) {
	if e := Check(w); e != api.OK {
		return 0, e
	}
	open, _ := levels(w)
	depth := 0
	for i := range len(w) {
		depth = max(depth, open[i])
	}
	return depth, api.OK
}

// Strip returns the trunk of w.
func Strip(w []api.Module) ([]api.Module, api.Errno) {
	if e := Check(w); e != api.OK {
		return nil, e
	}
	open, _ := levels(w)
	var trunk []api.Module
	for i := range len(w) {
		if open[i] == 0 {
			trunk = append(trunk, w[i])
		}
	}
	return Twin(trunk), api.OK
}

// levels returns how many brackets are open at each module, and whether all match. A pair is open at both of its brackets, too, so that these have the same level, and all brackets between them greater ones.
func levels(w []api.Module) (open []int, match bool) {
	open = make([]int, len(w))
	level := 0
	for i := range len(w) {
		if w[i].Name == '[' {
			level++
		}
		open[i] = level
		if w[i].Name == ']' {
			level--
		}
		if level < 0 {
			return nil, false
		}
	}
	return open, level == 0
}

func bracket(m api.Module) bool {
	return m.Name == '[' || m.Name == ']'
}
