package context_test

import (
	"math"
	"math/rand"
	"slices"
	"strings"
	"testing"

	"gambrel/api"
	"gambrel/context"
)

// picture is a word whose letters all differ, but for those that are ignored, and for each module the name of its left and of its right neighbour, or a dot if it has none. Brackets stand where they do in the word.
type picture struct{ w, ignore, left, right string }

func pictures() []picture {
	return []picture{
		{"A", "", ".", "."}, {"AB", "", ".A", "B."}, {"ABC", "", ".AB", "BC."}, {"+-!", "", ".+-", "-!."},
		// The chapter's examples.
		{"A[B]C[D[E]F]", "", ".[A]A[C[D]D]", "C[.].[F[.].]"}, {"A+B", "+", ".AA", "BB."},
		// Over one branch, over several side by side, and over branches within branches.
		{"A[B]C", "", ".[A]A", "C[.]."}, {"A[]B", "", ".[]A", "B[]."}, {"A[BC]D", "", ".[AB]A", "D[C.]."}, {"A[B][C]D", "", ".[A][A]A", "D[.][.]."}, {"A[B][C][D]E", "", ".[A][A][A]A", "E[.][.][.]."}, {"A[][]B[[]]", "", ".[][]A[[]]", "B[][].[[]]"}, {"A[B[C]]D", "", ".[A[B]]A", "D[.[.]]."}, {"A[[B]C]D", "", ".[[A]A]A", "D[[.].]."}, {"A[B[C[D]E]F]G", "", ".[A[B[C]C]B]A", "G[F[E[.].].]."}, {"A[[[B]][C]]D", "", ".[[[A]][A]]A", "D[[[.]][.]]."}, {"AB[CD[EF]GH]IJ", "", ".A[BC[DE]DG]BI", "BI[DG[F.]H.]J."},
		// At the beginning and at the end of words and branches.
		{"[A]", "", "[.]", "[.]"}, {"[A]B", "", "[.].", "[.]."}, {"A[B]", "", ".[A]", ".[.]"}, {"[A][B]", "", "[.][.]", "[.][.]"}, {"[[[A]]]", "", "[[[.]]]", "[[[.]]]"}, {"[][A][]", "", "[][.][]", "[][.][]"}, {"[[A]B]C", "", "[[.].].", "[[.].]."}, {"[A[B]][C]D", "", "[.[A]][.].", "[.[.]][.]."}, {"A[[B]]", "", ".[[A]]", ".[[.]]"}, {"A[[[[B]]]]", "", ".[[[[A]]]]", ".[[[[.]]]]"}, {"A[B[C[D[E]]]]F", "", ".[A[B[C[D]]]]A", "F[.[.[.[.]]]]."},
		// With what is ignored in a row, within branches, and at both ends.
		{"A+-+B", "+-", ".AAAA", "BBBB."}, {"A+-B", "+", ".AA-", "--B."}, {"+A+", "+", "..A", "A.."}, {"++A--", "+-", "...AA", "AA..."}, {"-+A[+-]+-", "-+", "...[AA]AA", "AA.[..].."}, {"A[+B]C", "+", ".[AA]A", "C[B.]."}, {"A[B+]C", "+", ".[AB]A", "C[..]."}, {"A[+]B", "+", ".[A]A", "B[.]."}, {"A[B+]+C", "+", ".[AB]AA", "C[..]C."}, {"A+[B]+C", "+", ".A[A]AA", "CC[.]C."}, {"A[+[+B]+]+C", "+", ".[A[AA]A]AA", "C[.[B.].]C."}, {"+[A]+B", "+", ".[.]..", "B[.]B."}, {"A[B]+", "+", ".[A]A", ".[.]."}, {"A+[+]", "+", ".A[A]", "..[.]"},
		// Of modules that are ignored themselves, and where all or all but one are.
		{"FAG", "A", ".FF", "GG."}, {"++--", "+-", "....", "...."}, {"+", "+", ".", "."}, {"+[+]+", "+", ".[.].", ".[.]."}, {"AB", "A", "..", "B."}, {"AB", "B", ".A", ".."}, {"AB", "AB", "..", ".."}, {"+[+[+A+]+]+", "+", ".[.[..A].].", ".[.[A..].]."}, {"+++A+++", "+", "....AAA", "AAA...."}, {"[+][+]A[+][+]", "+", "[.][.].[A][A]", "[.][.].[.][.]"},
		// With what is ignored but does not stand there, and other names.
		{"A[B]C", "+-XYZ", ".[A]A", "C[.]."}, {"A[B]C", names[:20][3:], ".[A]A", "C[.]."}, {"AaB", "a", ".AA", "BB."}, {"AaB", "A", "..a", "aB."}, {"a^!B&|C", "^&|!", ".aaaBBB", "BBBCCC."}, {"A[B]C", "B", ".[A]A", "C[.]."}, {"A[BD]C", "B", ".[AA]A", "C[D.]."}, {"A[BD]C", "D", ".[AB]A", "C[..]."}, {"A[BD]C", "AC", ".[.B].", ".[D.]."},
	}
}

func TestLeftAndRightOfPictures(t *testing.T) {
	check := func(p picture, i int, neighbours string, got int, e api.Errno) {
		t.Helper()
		want, wantError := strings.IndexByte(p.w, neighbours[i]), api.OK
		if p.w[i] == '[' || p.w[i] == ']' {
			want, wantError = 0, api.ErrArg
		}
		if got != want || e != wantError {
			t.Errorf("%q ignoring %q, %d: %d %v, not %d %v", p.w, p.ignore, i, got, e, want, wantError)
		}
	}
	for _, p := range pictures() {
		w := plain(p.w)
		if len(p.left) != len(w) || len(p.right) != len(w) {
			t.Fatal(p)
		}
		for i := range w {
			left, e := context.Left(w, i, p.ignore)
			check(p, i, p.left, left, e)
			right, f := context.Right(w, i, p.ignore)
			check(p, i, p.right, right, f)
		}
	}
}

func TestLeftAndRightOfModulesWithArgs(t *testing.T) {
	w := read("A(1)[+(2)B(2,3)]+A(1)[C(4,5,6,7)]+(0)")
	for i, want := range [][2]int{0: {-1, 6}, 2: {0, 3}, 3: {0, -1}, 5: {0, 6}, 6: {0, -1}, 8: {6, -1}, 10: {6, -1}} {
		if want == [2]int{} {
			continue
		}
		left, e := context.Left(w, i, "+")
		right, f := context.Right(w, i, "+")
		if left != want[0] || right != want[1] || e != api.OK || f != api.OK {
			t.Error(i, left, right, e, f)
		}
	}
}

// sides checks Left and Right of a module against their definitions.
func sides(t *testing.T, w []mod, i int, ignore string) {
	t.Helper()
	left, e := context.Left(w, i, ignore)
	right, f := context.Right(w, i, ignore)
	if w[i].Name == '[' || w[i].Name == ']' {
		if left != 0 || right != 0 || e != api.ErrArg || f != api.ErrArg {
			t.Error(show(w), i, ignore, left, right, e, f)
		}
		return
	}
	if left != leftOf(w, i, ignore) || right != rightOf(w, i, ignore) || e != api.OK || f != api.OK {
		t.Error(show(w), i, ignore, left, right, e, f)
	}
}

func TestLeftAndRightOfShortWords(t *testing.T) {
	count := 0
	for _, w := range shortWords("A+[]", 7) {
		for i := range w {
			for _, ignore := range []string{"", "+", "A+"} {
				sides(t, w, i, ignore)
				count++
			}
		}
	}
	if count < 10000 {
		t.Error(count)
	}
}

func TestLeftAndRightOfManyWords(t *testing.T) {
	r := rand.New(rand.NewSource(81))
	for range 2000 {
		w := someWord(r, 1+r.Intn(40))
		ignore := someIgnores[r.Intn(len(someIgnores))]
		for i := range w {
			sides(t, w, i, ignore)
		}
	}
	for _, n := range []int{500, 1999, 2000} {
		w := someWord(r, n)
		for range 40 {
			sides(t, w, r.Intn(n), someIgnores[r.Intn(len(someIgnores))])
		}
		sides(t, w, 0, "")
		sides(t, w, n-1, "")
	}
}

// As far away as a neighbour can be.
func TestLeftAndRightOverAllOfAWord(t *testing.T) {
	for _, between := range []string{
		strings.Repeat("+", 1998), strings.Repeat("[]", 999), strings.Repeat("[", 999) + strings.Repeat("]", 999), strings.Repeat("[+]", 666), strings.Repeat("[C]", 666), strings.Repeat("[+", 600) + strings.Repeat("]", 600), strings.Repeat("[", 600) + strings.Repeat("D]", 600), strings.Repeat("[", 100) + strings.Repeat("E", 1798) + strings.Repeat("]", 100), strings.Repeat("[[[]]]+", 285),
	} {
		w := plain("A" + between + "B")
		if i, e := context.Left(w, len(w)-1, "+"); i != 0 || e != api.OK {
			t.Errorf("%.30s %d %v", between, i, e)
		}
		if i, e := context.Right(w, 0, "+"); i != len(w)-1 || e != api.OK {
			t.Errorf("%.30s %d %v", between, i, e)
		}
	}
	// Out of as many branches as there can be.
	deep := plain("A" + strings.Repeat("[", 999) + "B" + strings.Repeat("]", 999))
	if i, e := context.Left(deep, 1000, ""); i != 0 || e != api.OK {
		t.Error(i, e)
	}
	if i, e := context.Right(deep, 1000, ""); i != -1 || e != api.OK {
		t.Error(i, e)
	}
	if i, e := context.Right(deep, 0, ""); i != -1 || e != api.OK {
		t.Error(i, e)
	}
}

// Each name that may be ignored is passed over, alone and among others, and no other one is.
func TestLeftAndRightOfAllNames(t *testing.T) {
	for k, name := range []byte(names) {
		w := plain("A" + string(name) + "B")
		if name == 'A' || name == 'B' {
			w = plain("C" + string(name) + "D")
		}
		others := strings.NewReplacer(string(name), "", "A", "", "B", "", "C", "", "D", "").Replace(names)
		for _, c := range []struct {
			ignore      string
			left, right int
		}{
			{"", 1, 1}, {string(name), 0, 2}, {others[:20], 1, 1}, {others[20:40], 1, 1}, {others[k%20:][:19] + string(name), 0, 2}, {string(name) + others[k%20:][:19], 0, 2},
		} {
			left, e := context.Left(w, 2, c.ignore)
			right, f := context.Right(w, 0, c.ignore)
			if left != c.left || right != c.right || e != api.OK || f != api.OK {
				t.Errorf("%q %q: %d %d %v %v", name, c.ignore, left, right, e, f)
			}
			// It is a neighbour as well as any other one, and has neighbours also where it is ignored.
			left, e = context.Left(w, 1, c.ignore)
			right, f = context.Right(w, 1, c.ignore)
			if left != 0 || right != 2 || e != api.OK || f != api.OK {
				t.Errorf("%q %q: %d %d %v %v", name, c.ignore, left, right, e, f)
			}
		}
	}
}

// refused checks that Left and Right have an error for an index.
func refused(t *testing.T, w []mod, i int, ignore string, want api.Errno) {
	t.Helper()
	if left, e := context.Left(w, i, ignore); left != 0 || e != want {
		t.Errorf("%s %d %.50q: %d %v, not %v", show(w), i, ignore, left, e, want)
	}
	if right, e := context.Right(w, i, ignore); right != 0 || e != want {
		t.Errorf("%s %d %.50q: %d %v, not %v", show(w), i, ignore, right, e, want)
	}
}

// others are indices that no module of a word of n modules has.
func others(n int) []int {
	return append([]int{-1, -2, -n, -n - 1, n, n + 1, 2*n + 1, api.MaxWord, api.MaxWord + 1, math.MinInt + n}, integers...)
}

func TestLeftAndRightOfOtherIndices(t *testing.T) {
	for _, s := range []string{"A", "AB", "[]", "A[B]C", "[A]", strings.Repeat("A", 1999), strings.Repeat("[", 500) + strings.Repeat("]", 500)} {
		w := plain(s)
		for _, i := range others(len(w)) {
			refused(t, w, i, "", api.ErrArg)
			refused(t, w, i, "+-", api.ErrArg)
		}
		for i := range min(len(w), 600) {
			if w[i].Name == '[' || w[i].Name == ']' {
				refused(t, w, i, "", api.ErrArg)
			}
		}
	}
	for _, w := range [][]mod{nil, {}, plain("AB")[:0]} {
		for _, i := range append(others(0), 0) {
			refused(t, w, i, "", api.ErrArg)
		}
	}
	// Behind the end of a slice, and within its memory.
	refused(t, plain("AB[]")[:2], 2, "", api.ErrArg)
	refused(t, plain("ABC")[:2], 2, "", api.ErrArg)
	if i, e := context.Right(plain("ABC")[:2], 1, ""); i != -1 || e != api.OK {
		t.Error(i, e)
	}
}

func TestLeftAndRightOfWhatIsIgnored(t *testing.T) {
	w := plain("A[B]C")
	for _, ignore := range goodIgnores() {
		for i := range w {
			sides(t, w, i, ignore)
		}
	}
	for _, ignore := range wrongIgnores() {
		for _, i := range []int{0, 2, 4} {
			refused(t, w, i, ignore, api.ErrBad)
		}
		refused(t, plain("A"), 0, ignore, api.ErrBad)
	}
}

// The error of the word comes first, then that of the index, then that of what is ignored.
func TestLeftAndRightWithSeveralErrors(t *testing.T) {
	ignores := []string{"", "+", "[", "++", "#", names[:21]}
	for _, c := range wrongWords() {
		for _, i := range []int{0, -1, 1, len(c.w), len(c.w) - 1, math.MaxInt, math.MinInt} {
			for _, ignore := range ignores {
				refused(t, c.w, i, ignore, c.e)
			}
		}
	}
	for _, ignore := range slices.Concat(ignores, wrongIgnores()) {
		for _, i := range []int{1, 3, -1, 5, 6, math.MaxInt, math.MinInt} {
			refused(t, plain("A[B]C"), i, ignore, api.ErrArg)
		}
		refused(t, nil, 0, ignore, api.ErrArg)
	}
}
