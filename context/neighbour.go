package context

import (
	"strings"

	"gambrel/api"
	"gambrel/word"
)

// mostIgnored is the greatest number of names that are ignored.
const mostIgnored = 20

// Left returns the index of the left neighbour of the module of w with the index i, or -1 if it has none.
func Left(w []api.Module, i int, ignore string) (int, api.Errno) {
	return neighbour(lefts, w, i, ignore)
}

// Right returns the index of the right neighbour of the module of w with the index i, or -1 if it has none.
func Right(w []api.Module, i int, ignore string) (int, api.Errno) {
	return neighbour(rights, w, i, ignore)
}

// neighbour returns the neighbour of the module of w with the index i, at the side that is given by lefts or rights.
func neighbour(side func(w []api.Module, ignore string) []int, w []api.Module, i int, ignore string) (int, api.Errno) {
	if e := word.Check(w); e != api.OK {
		return 0, e
	}
	if i < 0 || i >= len(w) || !letter(w[i].Name) {
		return 0, api.ErrArg
	}
	if !ignorable(ignore) {
		return 0, api.ErrBad
	}
	return side(w, ignore)[i], api.OK
}

// lefts returns the left neighbours of all modules of a valid word. A module that is passed over has the same left neighbour as the one behind it, and its own is found first; so brackets have one here, too.
func lefts(w []api.Module, ignore string) []int {
	left := make([]int, len(w))
	other := pairs(w)
	for i := range len(w) {
		at := i - 1
		switch {
		case at < 0:
			left[i] = -1
		case w[at].Name == ']':
			at = other[at]
			fallthrough
		case w[at].Name == '[', ignored(w[at], ignore):
			left[i] = left[at]
		default:
			left[i] = at
		}
	}
	return left
}

// rights returns the right neighbours of all modules of a valid word, found from its end on as lefts finds its own from the beginning.
func rights(w []api.Module, ignore string) []int {
	right := make([]int, len(w))
	other := pairs(w)
	for k := range len(w) {
		i := len(w) - 1 - k
		at := i + 1
		switch {
		case at == len(w), w[at].Name == ']':
			right[i] = -1
		case w[at].Name == '[':
			at = other[at]
			fallthrough
		case ignored(w[at], ignore):
			right[i] = right[at]
		default:
			right[i] = at
		}
	}
	return right
}

// pairs returns, for each bracket of a valid word, the index of the one that belongs to it: what word.Close tells, for all of them at once.
func pairs(w []api.Module) []int {
	other := make([]int, len(w))
	var open []int
	for i := range len(w) {
		switch w[i].Name {
		case '[':
			open = append(open, i)
		case ']':
			last := len(open) - 1
			other[i], other[open[last]] = open[last], i
			open = open[:last]
		}
	}
	return other
}

func ignored(m api.Module, ignore string) bool {
	return strings.IndexByte(ignore, m.Name) >= 0
}

// ignorable reports whether ignore is as it should be.
func ignorable(ignore string) bool {
	if len(ignore) > mostIgnored {
		return false
	}
	for i := range len(ignore) {
		if !letter(ignore[i]) || strings.IndexByte(ignore[:i], ignore[i]) >= 0 {
			return false
		}
	}
	return true
}

// letter reports whether name is that of a module, but no bracket: a bracket alone is no word.
func letter(name byte) bool {
	return word.Check([]api.Module{{Name: name}}) == api.OK
}
