package word_test

import (
	"slices"
	"strings"
	"testing"
	"unsafe"

	"gambrel/api"
	"gambrel/word"
)

// behind is what stands in the memory between the length and the capacity of the Args of a fresh word.
const behind = 77

// fresh returns a copy of a word of which no two slices share memory. There is room behind each of them, which holds something.
func fresh(w []mod) []mod {
	room := make([]mod, 0, len(w)+3)
	for _, m := range w {
		args := append(make([]int, 0, len(m.Args)+2), m.Args...)
		copy(args[len(args):cap(args)], []int{behind, behind})
		room = append(room, mod{Name: m.Name, Args: args})
	}
	for i := range 3 {
		room[:cap(room)][len(w)+i] = with('?', i)
	}
	return room
}

// intact reports whether a fresh word is still what it was made of, and what is behind it, too.
func intact(w, from []mod) bool {
	for _, m := range w {
		if !slices.Equal(m.Args[len(m.Args):cap(m.Args)], []int{behind, behind}) {
			return false
		}
	}
	return identical(w, from) && identical(w[len(w):cap(w)], []mod{with('?', 0), with('?', 1), with('?', 2)})
}

// some returns words, valid ones and others.
func some() [][]mod {
	return [][]mod{
		nil, plain("F"), plain("[]"), plain("F[F]F"), plain("[[F]G]H"), {with('F', 1, -2), with('['), with('+', 0), with(']'), with('G', 1, 2, 3, 4)}, {with('F', 1), with('F', 1)}, times([]mod{with('F', 1, 2), with('['), with('G', 3), with(']')}, 20),
		plain("["), plain("]F"), plain("#"), {with('F', 1, 2, 3, 4, 5)}, {with('[', 1), with(']')}, {with('F', api.MaxArg+1)}, plain(strings.Repeat("F", 2001)), times([]mod{wide()}, 1001),
	}
}

func TestArgumentsAreOnlyRead(t *testing.T) {
	for _, a := range some() {
		for _, b := range some() {
			v, w := fresh(a), fresh(b)
			word.Check(v)
			word.Same(v, w)
			word.Twin(v)
			word.Depth(v)
			word.Strip(v)
			word.Count(v, 'F')
			word.Join(v, w)
			word.Join(v, v)
			word.Text(v)
			for i := range 6 {
				word.Close(v, i-1)
			}
			if !intact(v, a) || !intact(w, b) {
				t.Error(show(a, b, v, w))
			}
		}
	}
}

// area is a piece of memory.
type area struct{ from, to uintptr }

// areas returns where the slices of a word lie, with their capacities.
func areas(w []mod) []area {
	var all []area
	if cap(w) > 0 {
		from := uintptr(unsafe.Pointer(unsafe.SliceData(w)))
		all = append(all, area{from, from + uintptr(cap(w))*unsafe.Sizeof(mod{})})
	}
	for _, m := range w {
		if cap(m.Args) > 0 {
			from := uintptr(unsafe.Pointer(unsafe.SliceData(m.Args)))
			all = append(all, area{from, from + uintptr(cap(m.Args))*unsafe.Sizeof(0)})
		}
	}
	return all
}

// apart reports whether no two slices of the words share memory.
func apart(words ...[]mod) bool {
	var all []area
	for _, w := range words {
		all = append(all, areas(w)...)
	}
	slices.SortFunc(all, func(p, q area) int { return int(p.from) - int(q.from) })
	for i := 1; i < len(all); i++ {
		if all[i].from < all[i-1].to {
			return false
		}
	}
	return true
}

func TestResultsShareNoMemory(t *testing.T) {
	for _, a := range some() {
		for _, b := range some() {
			v, w := fresh(a), fresh(b)
			results := [][]mod{v, w}
			keep := func(result []mod, e api.Errno) {
				results = append(results, result)
			}
			text, _ := word.Text(v)
			for range 2 {
				keep(word.Twin(v), api.OK)
				keep(word.Strip(v))
				keep(word.Join(v, w))
				keep(word.Join(v, v))
				keep(word.Join(v, nil))
				keep(word.Join(nil, v))
				keep(word.Parse(text))
			}
			if !apart(results...) {
				t.Error(show(a, b))
			}
		}
	}
}

// Modules of an argument may have the same Args, in the same memory; those of a copy have their own.
func TestPartsOfResultsShareNoMemory(t *testing.T) {
	args := []int{1, 2}
	w := []mod{with('F', args...), with('F', args...), with('['), with(']'), with('G', args[:1]...)}
	twin := word.Twin(w)
	trunk, _ := word.Strip(w)
	joined, _ := word.Join(w, w)
	if !apart(w[:1], twin, trunk, joined) {
		t.Error(show(w, twin, trunk, joined))
	}
	twin[0].Args[0], trunk[0].Args[0], joined[0].Args[0] = 5, 6, 7
	if !slices.Equal(args, []int{1, 2}) || twin[1].Args[0] != 1 || trunk[1].Args[0] != 1 || joined[1].Args[0] != 1 || joined[5].Args[0] != 1 {
		t.Error(show(w, twin, trunk, joined))
	}
}

// What is put behind a slice of a result changes no other one.
func TestResultsCanGrow(t *testing.T) {
	w := []mod{with('F', 1), with('G', 2, 3), with('H'), with('I', 4)}
	text, _ := word.Text(w)
	trunk, _ := word.Strip(w)
	joined, _ := word.Join(w[:2], w[2:])
	parsed, _ := word.Parse(text)
	for _, result := range [][]mod{word.Twin(w), word.Twin(w[:2]), trunk, joined, parsed} {
		want := slices.Clone(w[:len(result)])
		for i := range result {
			grown := append(result[i].Args, 8, 9)
			grown[0] = 7
			result[i].Args = append([]int(nil), w[i].Args...)
		}
		if longer := append(result, with('X')); !identical(result, want) || len(longer) != len(w[:len(want)])+1 {
			t.Error(show(result, want))
		}
	}
	if !identical(w, []mod{with('F', 1), with('G', 2, 3), with('H'), with('I', 4)}) {
		t.Error(show(w))
	}
}

func TestNothingIsKept(t *testing.T) {
	const text = "F(1,2)[G(3)]H"
	want := []mod{with('F', 1, 2), with('['), with('G', 3), with(']'), with('H')}
	spoil := func(w []mod) {
		for i := range w {
			for j := range w[i].Args {
				w[i].Args[j] = -1
			}
			w[i].Name = '?'
		}
	}
	for range 3 {
		parsed, e := word.Parse(text)
		trunk, f := word.Strip(want)
		joined, g := word.Join(want, want)
		twin := word.Twin(want)
		if !is(parsed, e, want) || !is(trunk, f, []mod{want[0], want[4]}) || !is(joined, g, times(want, 2)) || !identical(twin, want) {
			t.Fatal(show(parsed, trunk, joined, twin), e, f, g)
		}
		for _, w := range [][]mod{parsed, trunk, joined, twin} {
			spoil(w)
		}
	}
}

// The same word may change between two calls.
func TestCallsSeeChanges(t *testing.T) {
	w := plain("F[F]F")
	for _, c := range []struct {
		at    int
		name  byte
		text  string
		depth int
		e     api.Errno
	}{{0, 'G', "G[F]F", 1, api.OK}, {1, '+', "", 0, api.ErrOpen}, {3, '-', "G+F-F", 0, api.OK}, {4, '#', "", 0, api.ErrBad}, {4, 'A', "G+F-A", 0, api.OK}} {
		w[c.at].Name = c.name
		text, e := word.Text(w)
		depth, f := word.Depth(w)
		if text != c.text || depth != c.depth || e != c.e || f != c.e || word.Check(w) != c.e {
			t.Error(c, text, depth, e, f)
		}
	}
}

// Asked by many at a time, all calls have the same results.
func TestCallsAtTheSameTime(t *testing.T) {
	words := good()
	done := make(chan bool)
	for range 4 {
		go func() {
			same := true
			for _, w := range words {
				rest, rounds := trunkOf(written(w))
				depth, _ := word.Depth(w)
				trunk, _ := word.Strip(w)
				text, _ := word.Text(w)
				back, _ := word.Parse(text)
				same = same && depth == rounds && written(trunk) == rest && identical(back, w)
			}
			done <- same
		}()
	}
	for range 4 {
		if !<-done {
			t.Error("other results")
		}
	}
}
