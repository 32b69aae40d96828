package value

import (
	"cmp"

	"gambrel/api"
	"gambrel/ratio"
)

// Compare returns -1 if a comes before b, 1 if it comes behind it, and 0 if they are the same.
func Compare(a, b api.Value) (int, api.Errno) {
	if e := checkBoth(a, b); e != api.OK {
		return 0, e
	}
	return compare(a, b)
}

// compare compares two valid values. They are the same exactly if it returns 0 and no error, as each valid value is written in one way.
func compare(a, b api.Value) (int, api.Errno) {
	if a.Kind != b.Kind {
		return 0, api.ErrKind
	}
	switch a.Kind {
	case api.KindNumber:
		return ratio.Cmp(a.Num, b.Num)
	case api.KindTruth:
		return compareTruths(a.Truth, b.Truth), api.OK
	case api.KindString:
		return cmp.Compare(a.Str, b.Str), api.OK
	}
	return compareLists(a.List, b.List)
}

func compareTruths(a, b bool) int {
	switch {
	case a == b:
		return 0
	case b:
		return -1
	}
	return 1
}

func compareLists(a, b []api.Value) (int, api.Errno) {
	for i := range min(len(a), len(b)) {
		order, e := compare(a[i], b[i])
		if order != 0 || e != api.OK {
			return order, e
		}
	}
	return cmp.Compare(len(a), len(b)), api.OK
}
