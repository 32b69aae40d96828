package label_test

import (
	"regexp"
	"slices"
	"strings"
	"testing"
	"unicode/utf8"

	"gambrel/api"
	"gambrel/label"
)

// The definitions as patterns.
const (
	namePattern = `[a-z][a-z0-9-]{0,39}`
	stepPattern = namePattern + `(\[(0|[1-9][0-9]{0,3})\])?`
)

func whole(pattern string) *regexp.Regexp {
	return regexp.MustCompile(`\A(` + pattern + `)\z`)
}

func TestName(t *testing.T) {
	for _, s := range goodNames() {
		if !label.Name(s) {
			t.Errorf("%q", s)
		}
	}
	for _, s := range badNames() {
		if label.Name(s) {
			t.Errorf("%q", s)
		}
	}
	for _, s := range []string{"a/b", "/", "a/", "a[0]", "a[", "]"} {
		if label.Name(s) {
			t.Errorf("%q", s)
		}
	}
}

func TestNameOfAllBytesAndRunes(t *testing.T) {
	pattern := whole(namePattern)
	try := func(c string) {
		for _, s := range []string{c, "a" + c, "a" + c + "z", "-" + c, "a" + strings.Repeat("0", api.MaxName-2) + c} {
			if label.Name(s) != pattern.MatchString(s) {
				t.Errorf("%q", s)
			}
		}
	}
	for b := range 256 {
		try(string([]byte{byte(b)}))
	}
	for r := rune(0); r < 0x11000; r++ {
		if utf8.ValidRune(r) {
			try(string(r))
		}
	}
}

func TestCheckOfPaths(t *testing.T) {
	for _, p := range paths() {
		if e := label.Check(p); e != api.OK {
			t.Errorf("%q %v", p, e)
		}
	}
	for _, s := range goodSteps() {
		for _, p := range []string{s.text, "a/" + s.text, s.text + "/a", "b/" + s.text + "/c[1]", deep(s.text, api.MaxDepth)} {
			if e := label.Check(p); e != api.OK {
				t.Errorf("%q %v", p, e)
			}
		}
	}
}

func TestCheckOfOtherStrings(t *testing.T) {
	for _, p := range malformed() {
		if e := label.Check(p); e != api.ErrForm {
			t.Errorf("%q %v", p, e)
		}
	}
	for _, p := range excessive() {
		if e := label.Check(p); e != api.ErrMany {
			t.Errorf("%q %v", p, e)
		}
	}
}

func TestLimitsOfCheck(t *testing.T) {
	for _, c := range []struct {
		p     string
		fault api.Errno
	}{
		{"", api.OK},
		{long(api.MaxName), api.OK},
		{long(api.MaxName + 1), api.ErrForm},
		{"a[9999]", api.OK},
		{"a[10000]", api.ErrForm},
		{deep("a", api.MaxDepth), api.OK},
		{deep("a", api.MaxDepth+1), api.ErrMany},
		{longest(), api.OK},
		{strings.Repeat("/", api.MaxDepth-1), api.ErrForm},
		{strings.Repeat("/", api.MaxDepth), api.ErrMany},
		{long(api.MaxText), api.ErrForm},
		{long(api.MaxText + 1), api.ErrMany},
		{strings.Repeat("/", api.MaxDepth) + long(api.MaxText-api.MaxDepth), api.ErrMany},
		{strings.Repeat("/", api.MaxDepth-1) + long(api.MaxText-api.MaxDepth+1), api.ErrForm},
		{strings.Repeat("/", api.MaxDepth-1) + long(api.MaxText-api.MaxDepth+2), api.ErrMany},
	} {
		if e := label.Check(c.p); e != c.fault {
			t.Errorf("%d bytes %q %v", len(c.p), c.p, e)
		}
	}
}

func TestCheckOfAllIndices(t *testing.T) {
	pattern := whole(stepPattern)
	for _, zeros := range []string{"", "0", "00"} {
		for n := range 20000 {
			p := "a[" + zeros + decimal(n) + "]"
			if e := label.Check(p); (e == api.OK) != pattern.MatchString(p) || e != api.OK && e != api.ErrForm {
				t.Errorf("%q %v", p, e)
			}
		}
	}
}

// decimal is written out, so that the tests do not share a way of writing numbers with the program.
func decimal(n int) string {
	if n < 10 {
		return "0123456789"[n : n+1]
	}
	return decimal(n/10) + decimal(n%10)
}

// Tried for all short strings over the bytes that paths have, and some that they have not.
func TestCheckOfAllShortStrings(t *testing.T) {
	pattern := whole(`(` + stepPattern + `(/` + stepPattern + `)*)?`)
	var walk func(s string, length int)
	walk = func(s string, length int) {
		want := api.ErrForm
		if pattern.MatchString(s) {
			want = api.OK
		}
		if e := label.Check(s); e != want {
			t.Errorf("%q %v", s, e)
		}
		if length == 0 {
			return
		}
		for _, next := range []string{"a", "z", "0", "1", "-", "/", "[", "]"} {
			walk(s+next, length-1)
		}
	}
	walk("", 6)
	for _, begin := range []string{"a/", "a[0]/a", "a[1", "a[9]", "[0]a", "A", "a b", "a\xff"} {
		walk(begin, 4)
	}
}

func TestSteps(t *testing.T) {
	for _, c := range []struct {
		p     string
		steps []string
	}{
		{"", nil},
		{"a", []string{"a"}},
		{"a[0]", []string{"a[0]"}},
		{"tower/floor[3]/window", []string{"tower", "floor[3]", "window"}},
		{"a/a/a", []string{"a", "a", "a"}},
		{deep("a[7]", api.MaxDepth), slices.Repeat([]string{"a[7]"}, api.MaxDepth)},
		{longest(), slices.Repeat([]string{long(api.MaxName) + "[9999]"}, api.MaxDepth)},
	} {
		if steps, e := label.Steps(c.p); !slices.Equal(steps, c.steps) || e != api.OK {
			t.Errorf("%q %q %v", c.p, steps, e)
		}
	}
	for _, p := range paths()[1:] {
		if steps, e := label.Steps(p); strings.Join(steps, "/") != p || len(steps) != strings.Count(p, "/")+1 || e != api.OK {
			t.Errorf("%q %q %v", p, steps, e)
		}
	}
}

func TestJoin(t *testing.T) {
	for _, s := range goodSteps() {
		for p, want := range map[string]string{"": s.text, "a": "a/" + s.text, "a/b[10]": "a/b[10]/" + s.text, deep("z", api.MaxDepth-1): deep("z", api.MaxDepth-1) + "/" + s.text} {
			if joined, e := label.Join(p, s.text); joined != want || e != api.OK {
				t.Errorf("%q %q %q %v", p, s.text, joined, e)
			}
		}
		for _, p := range []string{deep("a", api.MaxDepth), longest()} {
			if joined, e := label.Join(p, s.text); joined != "" || e != api.ErrMany {
				t.Errorf("%q %q %q %v", p, s.text, joined, e)
			}
		}
	}
}

func TestJoinOfWhatIsNoStep(t *testing.T) {
	steps := append(badSteps(), "/", "a/", "/a", "a/b", "a[0]/b", "a[/]", "a[1/]", "a[/1]", "a[0/1]", deep("a", api.MaxDepth), deep("a", api.MaxDepth+1), long(api.MaxText), long(api.MaxText+1), strings.Repeat("/", api.MaxText+1))
	for _, step := range steps {
		// That it is no step comes before that there are too many.
		for _, p := range []string{"", "a", "a/b[1]", deep("a", api.MaxDepth), longest()} {
			if joined, e := label.Join(p, step); joined != "" || e != api.ErrForm {
				t.Errorf("%q %q %q %v", p, step, joined, e)
			}
		}
	}
}

func TestParentAndLast(t *testing.T) {
	for _, c := range []struct {
		p, parent, name string
		index           int
	}{
		{"tower/floor[3]", "tower", "floor", 3},
		{"tower/floor[3]/window", "tower/floor[3]", "window", -1},
		{"tower", "", "tower", -1},
		{"tower[0]", "", "tower", 0},
		{"a/b/c[9999]", "a/b", "c", 9999},
		{"a[1]/a[1]", "a[1]", "a", 1},
		{deep("a", api.MaxDepth), deep("a", api.MaxDepth-1), "a", -1},
		{longest(), deep(long(api.MaxName)+"[9999]", api.MaxDepth-1), long(api.MaxName), 9999},
	} {
		if parent, e := label.Parent(c.p); parent != c.parent || e != api.OK {
			t.Errorf("%q %q %v", c.p, parent, e)
		}
		if name, index, e := label.Last(c.p); name != c.name || index != c.index || e != api.OK {
			t.Errorf("%q %q %d %v", c.p, name, index, e)
		}
	}
	for _, s := range goodSteps() {
		for _, p := range []string{s.text, "a/" + s.text, deep("b[2]", api.MaxDepth-1) + "/" + s.text} {
			if name, index, e := label.Last(p); name != s.name || index != s.index || e != api.OK {
				t.Errorf("%q %q %d %v", p, name, index, e)
			}
		}
	}
}

func TestRootHasNoParentAndNoLastStep(t *testing.T) {
	if parent, e := label.Parent(""); parent != "" || e != api.ErrNone {
		t.Errorf("%q %v", parent, e)
	}
	if name, index, e := label.Last(""); name != "" || index != 0 || e != api.ErrNone {
		t.Errorf("%q %d %v", name, index, e)
	}
}

func TestErrorsOfOnePath(t *testing.T) {
	try := func(p string, want api.Errno) {
		if steps, e := label.Steps(p); len(steps) != 0 || e != want {
			t.Errorf("Steps %q %q %v", p, steps, e)
		}
		for _, step := range []string{"a", "a[0]", "", "A", "a/b", "a[01]"} {
			if joined, e := label.Join(p, step); joined != "" || e != want {
				t.Errorf("Join %q %q %q %v", p, step, joined, e)
			}
		}
		if parent, e := label.Parent(p); parent != "" || e != want {
			t.Errorf("Parent %q %q %v", p, parent, e)
		}
		if name, index, e := label.Last(p); name != "" || index != 0 || e != want {
			t.Errorf("Last %q %q %d %v", p, name, index, e)
		}
	}
	for _, p := range malformed() {
		try(p, api.ErrForm)
	}
	for _, p := range excessive() {
		try(p, api.ErrMany)
	}
}
