package value

import (
	"strconv"
	"strings"

	"gambrel/api"
	"gambrel/ratio"
)

// Text returns the text of v.
func Text(v api.Value) (string, api.Errno) {
	if e := Check(v); e != api.OK {
		return "", e
	}
	s := text(v)
	if len(s) > api.MaxText {
		return "", api.ErrMany
	}
	return s, api.OK
}

// Parse returns the valid value whose text is s.
func Parse(s string) (api.Value, api.Errno) {
	// First of all, as each [ is read one level deeper.
	if len(s) > api.MaxText {
		return api.Value{}, api.ErrForm
	}
	v, rest, ok := read(s)
	if !ok || rest != "" || Check(v) != api.OK {
		return api.Value{}, api.ErrForm
	}
	return v, api.OK
}

func text(v api.Value) string {
	switch v.Kind {
	case api.KindNumber:
		s, _ := ratio.Text(v.Num)
		return s
	case api.KindTruth:
		return strconv.FormatBool(v.Truth)
	case api.KindString:
		return quoted(v.Str)
	}
	var elements []string
	for _, element := range v.List {
		elements = append(elements, text(element))
	}
	return "[" + strings.Join(elements, ", ") + "]"
}

func quoted(s string) string {
	var b strings.Builder
	b.WriteByte('"')
	for _, c := range s {
		if c == '"' || c == '\\' {
			b.WriteByte('\\')
		}
		b.WriteRune(c)
	}
	b.WriteByte('"')
	return b.String()
}

// read returns the value at the beginning of s and what follows its text, and whether there is one. It takes strings and lists of any size.
func read(s string) (v api.Value, rest string, ok bool) {
	if after, ok := strings.CutPrefix(s, `"`); ok {
		return readString(after)
	}
	if after, ok := strings.CutPrefix(s, "["); ok {
		return readList(after)
	}
	end := strings.IndexAny(s, ",]")
	if end < 0 {
		end = len(s)
	}
	word := s[:end]
	if word == "true" || word == "false" {
		return api.Value{Kind: api.KindTruth, Truth: word == "true"}, s[end:], true
	}
	v, e := number(ratio.Parse(word))
	return v, s[end:], e == api.OK
}

// readString reads a string behind its first quotation mark.
func readString(s string) (v api.Value, rest string, ok bool) {
	var b strings.Builder
	escaped := false
	for at, c := range s {
		special := c == '"' || c == '\\'
		switch {
		case escaped && !special:
			return api.Value{}, "", false
		case escaped || !special:
			b.WriteRune(c)
			escaped = false
		case c == '\\':
			escaped = true
		default:
			return api.Value{Kind: api.KindString, Str: b.String()}, s[at+1:], true
		}
	}
	return api.Value{}, "", false
}

// readList reads a list behind its bracket.
func readList(s string) (v api.Value, rest string, ok bool) {
	v.Kind = api.KindList
	if after, empty := strings.CutPrefix(s, "]"); empty {
		return v, after, true
	}
	for {
		element, after, ok := read(s)
		if !ok {
			return api.Value{}, "", false
		}
		v.List = append(v.List, element)
		if rest, last := strings.CutPrefix(after, "]"); last {
			return v, rest, true
		}
		if s, ok = strings.CutPrefix(after, ", "); !ok {
			return api.Value{}, "", false
		}
	}
}
