package value

import (
	"slices"
	"strings"

	"gambrel/api"
)

// extent is where a list lies in memory. Same and Twin take lists that contain themselves, too, and end because they know them again by it.
type extent struct {
	first  *api.Value
	length int
}

func extentOf(list []api.Value) extent {
	if len(list) == 0 {
		return extent{}
	}
	return extent{&list[0], len(list)}
}

// Same reports whether a and b are identical, whether they are valid or not.
func Same(a, b api.Value) bool {
	met := map[[2]extent]bool{}
	var same func(a, b api.Value) bool
	same = func(a, b api.Value) bool {
		if a.Kind != b.Kind || a.Num != b.Num || a.Truth != b.Truth || a.Str != b.Str {
			return false
		}
		pair := [2]extent{extentOf(a.List), extentOf(b.List)}
		// Two lists that were met are the same, or are found to differ where they were met first.
		if met[pair] {
			return true
		}
		met[pair] = true
		return slices.EqualFunc(a.List, b.List, same)
	}
	return same(a, b)
}

// Twin returns a copy of v, whether it is valid or not.
func Twin(v api.Value) api.Value {
	open := map[extent][]api.Value{}
	var twin func(v api.Value) api.Value
	twin = func(v api.Value) api.Value {
		v.Str = strings.Clone(v.Str)
		if v.List == nil {
			return v
		}
		place := extentOf(v.List)
		list, inside := open[place]
		if !inside {
			list = make([]api.Value, len(v.List))
			open[place] = list
			for i, element := range v.List {
				list[i] = twin(element)
			}
			delete(open, place)
		}
		v.List = list
		return v
	}
	return twin(v)
}
