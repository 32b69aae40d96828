package label_test

import (
	"slices"
	"strings"

	"gambrel/api"
)

// long returns a name, or what would be one, of n bytes.
func long(n int) string {
	return strings.Repeat("a", n)
}

// deep returns a path, or what would be one, of n times the same step.
func deep(step string, n int) string {
	return strings.Join(slices.Repeat([]string{step}, n), "/")
}

// longest returns a path with the most steps, each one with the most bytes.
func longest() string {
	return deep(long(api.MaxName)+"[9999]", api.MaxDepth)
}

// goodNames returns names, with those of 1 and of MaxName bytes.
func goodNames() []string {
	return []string{
		"a", "b", "m", "z", "az", "a0", "a9", "a-", "z--", "a-b", "a1-2", "floor", "tower", "x0123456789-", "abcdefghijklmnopqrstuvwxyz",
		long(api.MaxName), long(api.MaxName - 1), "z" + strings.Repeat("9", api.MaxName-1), "q" + strings.Repeat("-", api.MaxName-1),
	}
}

// badNames returns strings that are no names, and without a slash and a bracket.
func badNames() []string {
	return []string{
		"", "0", "1", "9", "-", "-a", "1a", "0-", "--", "A", "Z", "aB", "aZ", "Tower", "a_b", "a.b", ".", "..", "a b", " ", " a", "a ", "a\n", "\na", "\t", "a\x00", "\x00",
		"`", "{", "a`", "a{", ":", "a:", ",", "a,", "a.", "a+", "\u00e4", "a\u00e4", "\u0430", "a\u0661", "\uff41", "a\uff11", "\ufffd", "a\ufffd", "\xff", "a\xff", "a\xc3", "\xe1", "a\xb1",
		// Their least bytes are those of a, of 1 and of -.
		"\u0161", "a\u0161", "a\u0131", "a\u012d",
		long(api.MaxName + 1), "b" + long(api.MaxName), "a" + strings.Repeat("-", api.MaxName), strings.Repeat("a\n", 20), long(1000), strings.Repeat("\u00e4", 20),
	}
}

// goodSteps returns steps with their names and indices.
func goodSteps() []stepParts {
	list := []stepParts{
		{"a[0]", "a", 0}, {"a[1]", "a", 1}, {"a[9]", "a", 9}, {"a[10]", "a", 10}, {"b[100]", "b", 100}, {"b[999]", "b", 999}, {"b[1000]", "b", 1000}, {"c[9998]", "c", 9998}, {"c[9999]", "c", api.MaxIndex},
		{"x1-[20]", "x1-", 20}, {"floor[3]", "floor", 3}, {"a1[2]", "a1", 2}, {long(api.MaxName) + "[9999]", long(api.MaxName), api.MaxIndex}, {long(api.MaxName) + "[0]", long(api.MaxName), 0},
	}
	for _, name := range goodNames() {
		list = append(list, stepParts{name, name, -1})
	}
	return list
}

type stepParts struct {
	text, name string
	index      int
}

// badSteps returns strings that are no steps, and have no slash.
func badSteps() []string {
	list := []string{
		"[", "]", "[]", "[0]", "[1]a", "a[", "a]", "a[]", "a[0", "a0]", "a[0]]", "a[[0]", "a[[0]]", "a[0][1]", "a[][0]", "a[0[", "a]0[", "a[0]b", "a[0] ", "a[0]\n", "a [0]", " a[0]", "1[0]", "-[0]", "A[0]", "a_[0]", "\u00e4[0]",
		"a[00]", "a[01]", "a[09]", "a[012]", "a[000]", "a[0000]", "a[0001]", "a[00000]", "a[00001]", "a[09999]", "a[010000]",
		"a[10000]", "a[10001]", "a[99999]", "a[65536]", "a[4294967296]", "a[4294967297]", "a[9223372036854775808]", "a[18446744073709551616]", "a[18446744073709551617]",
		"a[-1]", "a[-0]", "a[+1]", "a[+0]", "a[ 1]", "a[1 ]", "a[1.0]", "a[1e1]", "a[0x1]", "a[1_0]", "a[a]", "a[1b]", "a[b1]", "a[1:]", "a[:]", "a[.]", "a[1-]", "a[1\n]",
		"a[\u0661]", "a[\uff11]", "a[\u0131]", "a[1\u0661]", "a[\xff]", "a[1\xb1]", "a\xff[1]",
		long(api.MaxName+1) + "[0]", "a[" + strings.Repeat("9", 3000) + "]", "a[" + strings.Repeat("0", 3000) + "1]", strings.Repeat("[", 3000), strings.Repeat("a[0]", 900),
	}
	return append(list, badNames()...)
}

// malformed returns strings that are no paths, with no more bytes and slashes than one may have.
func malformed() []string {
	list := []string{
		"/", "//", "a/", "/a", "a//b", "a/b/", "/a/b", "a[0]/", "/a[0]", "a[0]//b", "a/ b", "a /b", "a\\b", "a/b\n", "\na/b", "a[0/b]", "a[/0]", "a/[0]", "a[1/2]",
		strings.Repeat("/", api.MaxDepth-1), strings.Repeat("/a", api.MaxDepth-1), strings.Repeat("a/", api.MaxDepth-1), deep("A", api.MaxDepth), deep("a[01]", api.MaxDepth), deep("a", api.MaxDepth) + "[",
		long(api.MaxText), long(api.MaxText-1) + "/", deep(long(99), api.MaxDepth), strings.Repeat("\xff", api.MaxText), strings.Repeat("\u00e4", api.MaxText/2), strings.Repeat("/", api.MaxDepth-1) + long(api.MaxText-api.MaxDepth+1),
	}
	for _, step := range badSteps() {
		list = append(list, "a/b[0]/"+step, step+"/a", "b/"+step+"/c[1]")
		if step != "" {
			list = append(list, step)
		}
	}
	return list
}

// excessive returns strings with more bytes or more slashes than a path may have.
func excessive() []string {
	return []string{
		long(api.MaxText + 1), long(1000000), strings.Repeat("A", api.MaxText+1), strings.Repeat("\u00e4", api.MaxText/2) + "a", strings.Repeat("\xff", api.MaxText+1), strings.Repeat("/", api.MaxText+1), deep(long(200), 30),
		deep("a", api.MaxDepth+1), deep("a[1]", api.MaxDepth+1), deep("A", api.MaxDepth+1), deep("a[01]", api.MaxDepth+1), deep("a", 1000), longest() + "/a",
		strings.Repeat("/", api.MaxDepth), strings.Repeat("a/", api.MaxDepth), strings.Repeat("/a", api.MaxDepth), strings.Repeat("/", api.MaxText),
	}
}

// someSteps returns steps that are easily taken for each other, in their order.
func someSteps() []string {
	return []string{"a", "a[0]", "a[1]", "a[2]", "a[10]", "a-", "a0", "ab", "ab[1]"}
}

// tree returns all paths of at most so many of some steps, those above before those below.
func tree(depth int) []string {
	list := []string{""}
	level := list
	for range depth {
		var next []string
		for _, above := range level {
			for _, step := range someSteps() {
				next = append(next, strings.TrimPrefix(above+"/"+step, "/"))
			}
		}
		list = append(list, next...)
		level = next
	}
	return list
}

// paths returns paths: small ones, and ones at the limits.
func paths() []string {
	list := append(tree(2),
		"tower", "tow", "tower/floor[3]", "tower/floor[3]/window", "tower/floor[30]", "tower/floor", "a/b[1]/c", "a/b[10]", "a/b", "a/b/c", "a/b[0]", "a/b[2]", "a/a/a/a", "a/a/a[1]/a",
		long(api.MaxName), long(api.MaxName-1)+"b", long(api.MaxName)+"[9999]", long(api.MaxName)+"[999]", "z[9999]", "z[9998]", "z[9]", "z",
		deep("a", api.MaxDepth), deep("a", api.MaxDepth-1), deep("a", api.MaxDepth-1)+"/b", deep("a", api.MaxDepth-1)+"/a[0]", deep("a[0]", api.MaxDepth), longest(), longest()[:len(longest())-1-len("[9999]")], deep("z-", 20),
	)
	return list
}
