package label_test

import (
	"cmp"
	"slices"
	"strings"
	"testing"

	"gambrel/api"
	"gambrel/label"
)

// key returns a string whose place in the order of bytes is that of the path in the order of paths: each name has an end that comes before all bytes of names, and then its index in four digits, with others before them for none.
func key(p string) string {
	if p == "" {
		return ""
	}
	var list []string
	for _, step := range strings.Split(p, "/") {
		name, index, indexed := strings.Cut(strings.TrimSuffix(step, "]"), "[")
		digits := "----"
		if indexed {
			digits = strings.Repeat("0", 4-len(index)) + index
		}
		list = append(list, name+"!"+digits)
	}
	return strings.Join(list, "")
}

// above returns the path and all others that it is under, found without the program.
func above(p string) []string {
	list := []string{""}
	steps := strings.Split(p, "/")
	if p == "" {
		return list
	}
	for i := range steps {
		list = append(list, strings.Join(steps[:i+1], "/"))
	}
	return list
}

func TestExamplesOfPairs(t *testing.T) {
	for _, c := range []struct {
		p, q   string
		under  bool
		common string
		order  int
	}{
		{"", "", true, "", 0},
		{"a", "", true, "", 1},
		{"", "a", false, "", -1},
		{"a", "a", true, "a", 0},
		{"tower/floor[3]/window", "tower", true, "tower", 1},
		{"tower/floor[3]/window", "tow", false, "", 1},
		{"tower/floor[3]", "tower/floor", false, "tower", 1},
		{"tower/floor[3]", "tower/floor[30]", false, "tower", -1},
		{"tower/floor[3]", "tower/floor[3]", true, "tower/floor[3]", 0},
		{"a/b[1]/c", "a/b[10]", false, "a", -1},
		{"a/b", "a/b/c", false, "a/b", -1},
		{"a/b/c", "a/b[0]", false, "a", -1},
		{"a/b[2]", "a/b[10]", false, "a", -1},
		{"a/b[9]", "a/b[10]", false, "a", -1},
		{"z", "a/b", false, "", 1},
		{"a[0]", "a-", false, "", -1},
		{"a/z", "a-", false, "", -1},
		{"a-", "a0", false, "", -1},
		{"a0", "aa", false, "", -1},
		{"b", "aa", false, "", 1},
		{"a[9999]", "a[9998]", false, "", 1},
		{deep("a", api.MaxDepth), deep("a", api.MaxDepth-1), true, deep("a", api.MaxDepth-1), 1},
	} {
		if under, e := label.Under(c.p, c.q); under != c.under || e != api.OK {
			t.Errorf("%q %q %v %v", c.p, c.q, under, e)
		}
		if common, e := label.Common(c.p, c.q); common != c.common || e != api.OK {
			t.Errorf("%q %q %q %v", c.p, c.q, common, e)
		}
		if order, e := label.Compare(c.p, c.q); order != c.order || e != api.OK {
			t.Errorf("%q %q %d %v", c.p, c.q, order, e)
		}
	}
}

func TestAllPairs(t *testing.T) {
	list := append(paths(), tree(3)[:400]...)
	for _, p := range list {
		of := above(p)
		for _, q := range list {
			if under, e := label.Under(p, q); under != slices.Contains(of, q) || e != api.OK {
				t.Errorf("%q %q %v %v", p, q, under, e)
			}
			if order, e := label.Compare(p, q); order != cmp.Compare(key(p), key(q)) || e != api.OK {
				t.Errorf("%q %q %d %v", p, q, order, e)
			}
			want := ""
			for _, r := range above(q) {
				if slices.Contains(of, r) {
					want = r
				}
			}
			if common, e := label.Common(p, q); common != want || e != api.OK {
				t.Errorf("%q %q %q %v", p, q, common, e)
			}
		}
	}
}

func TestErrorsOfPairs(t *testing.T) {
	try := func(p, q string, want api.Errno) {
		if under, e := label.Under(p, q); under || e != want {
			t.Errorf("Under %q %q %v %v", p, q, under, e)
		}
		if common, e := label.Common(p, q); common != "" || e != want {
			t.Errorf("Common %q %q %q %v", p, q, common, e)
		}
		if order, e := label.Compare(p, q); order != 0 || e != want {
			t.Errorf("Compare %q %q %d %v", p, q, order, e)
		}
	}
	wrong := func(list, others []string, want api.Errno) {
		for _, p := range list {
			try(p, p, want)
			for _, q := range []string{"", "a", "a/b", deep("a", api.MaxDepth)} {
				try(p, q, want)
				try(q, p, want)
			}
			// Of two that are not valid, the first one counts.
			for _, q := range others {
				try(p, q, want)
			}
		}
	}
	wrong(malformed(), excessive(), api.ErrForm)
	wrong(excessive(), malformed(), api.ErrMany)
}
