package growth

import (
	"strings"

	"gambrel/api"
	"gambrel/word"
)

// proper reports whether names are different names of modules, none of them a bracket.
func proper(names string) bool {
	for i := range len(names) {
		if !letter(names[i]) || strings.IndexByte(names, names[i]) < i {
			return false
		}
	}
	return true
}

// letter reports whether name is that of a module, but no bracket: a bracket alone is no word.
func letter(name byte) bool {
	return word.Check([]api.Module{{Name: name}}) == api.OK
}

// plainRule reports whether r, which is valid, is plain for names.
func plainRule(r api.Rewrite, names string) bool {
	if r.Arity != 0 || len(r.Guards) > 0 || !among(names, r.Name) {
		return false
	}
	for _, s := range r.Out {
		if !plain(s.Name, len(s.Args), names) {
			return false
		}
	}
	return true
}

// plainWord reports whether w, which is valid, is plain for names.
func plainWord(w []api.Module, names string) bool {
	for _, m := range w {
		if !plain(m.Name, len(m.Args), names) {
			return false
		}
	}
	return true
}

// plain reports whether a module with a name and so many Args is a bracket, or has no Args and one of names.
func plain(name byte, args int, names string) bool {
	return args == 0 && (name == '[' || name == ']' || among(names, name))
}

func among(names string, name byte) bool {
	return strings.IndexByte(names, name) >= 0
}
