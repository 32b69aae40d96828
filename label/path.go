package label

import (
	"iter"
	"slices"
	"strings"
)

// path is the text of a path. What its methods return may be a part of it, and share its memory: results of the package are cloned.
type path string

// steps yields what stands between the slashes, in any text; nothing for the root.
func (p path) steps() iter.Seq[string] {
	return func(yield func(string) bool) {
		rest, more := string(p), p != ""
		for more {
			var text string
			text, rest, more = strings.Cut(rest, "/")
			if !yield(text) {
				return
			}
		}
	}
}

// split returns the parent and the last step of a path that is not the root. Of the root, it makes two empty strings.
func (p path) split() (above path, last string) {
	slash := strings.LastIndex(string(p), "/")
	return p[:max(slash, 0)], string(p[slash+1:])
}

func (p path) under(q path) bool {
	return q == "" || p == q || strings.HasPrefix(string(p), string(q)+"/")
}

func (p path) common(q path) string {
	// All paths are under the root, so that this ends there at the latest.
	for !q.under(p) {
		p, _ = p.split()
	}
	return strings.Clone(string(p))
}

func (p path) compare(q path) int {
	return slices.CompareFunc(p.parsed(), q.parsed(), step.compare)
}

// parsed returns the parts of all steps.
func (p path) parsed() []step {
	var list []step
	for text := range p.steps() {
		s, _ := parse(text)
		list = append(list, s)
	}
	return list
}
