package word

import (
	"strconv"
	"strings"

	"gambrel/api"
)

// Text returns the text of w.
func Text(w []api.Module) (string, api.Errno) {
	if e := Check(w); e != api.OK {
		return "", e
	}
	var b strings.Builder
	for i := range len(w) {
		b.WriteByte(w[i].Name)
		if len(w[i].Args) > 0 {
			b.WriteString("(" + written(w[i].Args) + ")")
		}
	}
	if b.Len() > api.MaxLetters {
		return "", api.ErrMany
	}
	return b.String(), api.OK
}

// Parse returns the valid word whose text is s.
func Parse(s string) ([]api.Module, api.Errno) {
	// At once, as each byte may be read as a module, which takes far more memory.
	if len(s) > api.MaxLetters {
		return nil, api.ErrForm
	}
	w := loose(s)
	// A word has one text, so that whatever was read is right if it is written the same, and s is no text otherwise.
	if text, e := Text(w); e != api.OK || text != s {
		return nil, api.ErrForm
	}
	return w, api.OK
}

// written returns the text of Args, without the parentheses.
func written(args []int) string {
	var numbers []string
	for _, arg := range args {
		numbers = append(numbers, strconv.Itoa(arg))
	}
	return strings.Join(numbers, ",")
}

// loose reads names, with Args where a parenthesis follows. It makes some word of any other string, too.
func loose(s string) []api.Module {
	var w []api.Module
	for s != "" {
		m := api.Module{Name: s[0]}
		s = s[1:]
		if after, opened := strings.CutPrefix(s, "("); opened {
			inside, rest, _ := strings.Cut(after, ")")
			m.Args, s = looseArgs(inside), rest
		}
		w = append(w, m)
	}
	return w
}

// looseArgs reads numbers between commas. What is none, or does not fit into an int, gives some number, too.
func looseArgs(s string) []int {
	var args []int
	for _, text := range strings.Split(s, ",") {
		arg, _ := strconv.Atoi(text)
		args = append(args, arg)
	}
	return args
}
