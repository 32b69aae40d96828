package growth_test

import (
	"math/rand"
	"slices"
	"strings"
	"testing"

	"gambrel/api"
	"gambrel/growth"
)

func TestMatrix(t *testing.T) {
	twenty := strings.Repeat("A", 20)
	for _, c := range []struct {
		rules, names string
		want         rows
	}{
		{"A=AB B=A", "AB", rows{{1, 1}, {1, 0}}},
		{"A=AB B=A", "BA", rows{{0, 1}, {1, 1}}},
		{"B=A A=AB", "AB", rows{{1, 1}, {1, 0}}},
		{"A=A[A]A", "A", rows{{3}}},
		{"", "", nil},
		{"", "A", rows{{1}}},
		{"", "ABC", rows{{1, 0, 0}, {0, 1, 0}, {0, 0, 1}}},
		{"A=A", "A", rows{{1}}},
		{"A=B", "AB", rows{{0, 1}, {0, 1}}},
		{"A=B", "BA", rows{{1, 0}, {1, 0}}},
		// Without an Out, and with brackets alone.
		{"A=", "A", rows{{0}}},
		{"A=[]", "A", rows{{0}}},
		{"A=[[][]][] B=", "AB", rows{{0, 0}, {0, 0}}},
		{"A= ", "AB", rows{{0, 0}, {0, 1}}},
		// Only the first rule for a name matters.
		{"A=AB A=BB B=A", "AB", rows{{1, 1}, {1, 0}}},
		{"A=BB A=AB B=A", "AB", rows{{0, 2}, {1, 0}}},
		{"A= A=AB B=A A=B B=", "AB", rows{{0, 0}, {1, 0}}},
		{"A=A A=", "A", rows{{1}}},
		// Names without rules stay as they are, wherever they stand.
		{"B=AAC", "ABC", rows{{1, 0, 0}, {2, 0, 1}, {0, 0, 1}}},
		{"B=AAC", "CBA", rows{{1, 0, 0}, {1, 0, 2}, {0, 0, 1}}},
		{"F=F[+F]F[-F]F", "F+-", rows{{5, 1, 1}, {0, 1, 0}, {0, 0, 1}}},
		{"F=F[+F]F[-F]F", "-+F", rows{{1, 0, 0}, {0, 1, 0}, {1, 1, 5}}},
		{"+=-&^|! !=!!!", "+-&^|!", rows{{0, 1, 1, 1, 1, 1}, {0, 1, 0, 0, 0, 0}, {0, 0, 1, 0, 0, 0}, {0, 0, 0, 1, 0, 0}, {0, 0, 0, 0, 1, 0}, {0, 0, 0, 0, 0, 3}}},
		{"A=a a=Az Z=zZ", "aAzZ", rows{{0, 1, 1, 0}, {1, 0, 0, 0}, {0, 0, 1, 0}, {0, 0, 1, 1}}},
		{"A=" + twenty + " B=[" + strings.Repeat("B", 18) + "]", "AB", rows{{20, 0}, {0, 18}}},
		{"A=" + twenty[:10] + strings.Repeat("B", 10), "BA", rows{{1, 0}, {10, 10}}},
	} {
		if m, e := growth.Matrix(system(c.rules), c.names); !agree(m, e, c.want, api.OK) {
			t.Errorf("%q %q %v %v", c.rules, c.names, m, e)
		}
	}
}

func TestMatrixOfManySystems(t *testing.T) {
	r := rand.New(rand.NewSource(110))
	for range 3000 {
		s := someSystem(r)
		if m, e := growth.Matrix(s.rules, s.names); !agree(m, e, drawn(s.rules, s.names), api.OK) {
			t.Fatal(s, m, e)
		}
	}
}

// With the same names in another order, rows and columns are in this order.
func TestMatrixOfNamesInAnotherOrder(t *testing.T) {
	r := rand.New(rand.NewSource(111))
	list := goods()
	for range 500 {
		list = append(list, someSystem(r))
	}
	for _, s := range list {
		m, e := growth.Matrix(s.rules, s.names)
		other := shuffled(r, s.names)
		moved, f := growth.Matrix(s.rules, other)
		if e != api.OK || f != api.OK || len(m) != len(s.names) || len(moved) != len(s.names) {
			t.Fatal(s, other, m, moved, e, f)
		}
		for i, first := range []byte(s.names) {
			for k, second := range []byte(s.names) {
				if m[i][k] != moved[strings.IndexByte(other, first)][strings.IndexByte(other, second)] {
					t.Fatal(s, other, m, moved)
				}
			}
		}
	}
}

// The rows of a dozen names, with as many of each name as its row and column say.
func TestMatrixOfADozen(t *testing.T) {
	var rules []rule
	var want rows
	for i, name := range []byte(dozen) {
		s, row := "", make([]int64, 12)
		for k := range 5 {
			row[(i*5+k*k)%12] += int64(k)
			s += strings.Repeat(dozen[(i*5+k*k)%12:][:1], k)
		}
		rules, want = append(rules, from(name, s)), append(want, row)
	}
	for range 12 {
		// The order of rules for different names does not matter.
		rules = append(rules[5:], rules[:5]...)
		if m, e := growth.Matrix(rules, dozen); !agree(m, e, want, api.OK) {
			t.Error(m, e)
		}
	}
}

// Rules for a name behind the first one do not matter: neither where more of them are put behind it, nor where all of them are left out.
func TestRulesBehindTheFirstOne(t *testing.T) {
	r := rand.New(rand.NewSource(112))
	for range 500 {
		s := someSystem(r)
		w, n := plain(someText(r, s.names, r.Intn(20))), r.Intn(30)
		more := slices.Clone(s.rules)
		for len(more) > 0 && len(more) < 40 {
			i := r.Intn(len(more))
			place := i + 1 + r.Intn(len(more)-i)
			more = slices.Insert(more, place, from(more[i].Name, someText(r, s.names, r.Intn(9))))
		}
		var single []rule
		seen := map[byte]bool{}
		for _, o := range s.rules {
			if !seen[o.Name] {
				seen[o.Name], single = true, append(single, o)
			}
		}
		m, e := growth.Matrix(s.rules, s.names)
		counts, f := growth.Counts(s.rules, s.names, w, n)
		length, g := growth.Length(s.rules, s.names, w, n)
		for _, rules := range [][]rule{more, single} {
			if o, h := growth.Matrix(rules, s.names); !agree(o, h, m, e) {
				t.Fatal(s, rules, m, o, e, h)
			}
			if o, h := growth.Counts(rules, s.names, w, n); !agrees(o, h, counts, f) {
				t.Fatal(s, rules, counts, o, f, h)
			}
			if o, h := growth.Length(rules, s.names, w, n); o != length || h != g {
				t.Fatal(s, rules, length, o, g, h)
			}
		}
	}
}
