package chance

import (
	"slices"
	"strconv"

	"gambrel/api"
	"gambrel/rewrite"
	"gambrel/seed"
)

// partSize is the number of cells whose successors one goroutine finds.
const partSize = 64

// draw is what chooses between valid rules.
type draw struct {
	rules []api.Rewrite
	seed  int64
}

// part is what becomes of the part of some cells with an index, or the error of the first of them that has one.
type part struct {
	at    int
	cells []api.Cell
	e     api.Errno
}

// step replaces each of some valid cells by its successors. The memory of cells that stay as they are goes over to the result, so that l must be no one else's.
func (d draw) step(l []api.Cell) ([]api.Cell, api.Errno) {
	var next []api.Cell
	for _, p := range d.parts(l) {
		if p.e != api.OK {
			return nil, p.e
		}
		next = append(next, p.cells...)
	}
	// Only here, as the error of a cell comes first, even of one far behind.
	if len(next) > api.MaxWord {
		return nil, api.ErrMany
	}
	return next, api.OK
}

// parts returns what becomes of all parts of l, in their order, although they are found in any.
func (d draw) parts(l []api.Cell) []part {
	found := make(chan part)
	count := 0
	for some := range slices.Chunk(l, partSize) {
		at := count
		go func() {
			cells, e := d.all(some)
			found <- part{at, cells, e}
		}()
		count++
	}
	list := make([]part, count)
	for range count {
		p := <-found
		list[p.at] = p
	}
	return list
}

// all returns the successors of some cells, or the error of the first one that has one.
func (d draw) all(some []api.Cell) ([]api.Cell, api.Errno) {
	var next []api.Cell
	for _, c := range some {
		fresh, e := d.successors(c)
		if e != api.OK {
			return nil, e
		}
		next = append(next, fresh...)
	}
	return next, api.OK
}

// successors returns what becomes of a valid cell.
func (d draw) successors(c api.Cell) ([]api.Cell, api.Errno) {
	i := d.choose(c)
	if i < 0 {
		return []api.Cell{c}, api.OK
	}
	w, e := filled(d.rules[i], c.Module)
	if e != api.OK {
		return nil, e
	}
	var fresh []api.Cell
	for k, m := range w {
		path := c.Path + "/" + strconv.Itoa(k)
		if len(path) > api.MaxPath {
			return nil, api.ErrMany
		}
		fresh = append(fresh, api.Cell{Path: path, Module: m})
	}
	return fresh, api.OK
}

// choose returns the index of the rule that is chosen for c, or -1 if none fits.
func (d draw) choose(c api.Cell) int {
	var indices, weights []int
	for i, r := range d.rules {
		if fits(r, c.Module) {
			indices = append(indices, i)
			weights = append(weights, r.Weight)
		}
	}
	if len(indices) == 0 {
		return -1
	}
	// No error: the weights of valid rules are positive, and even those of all together not too much.
	k, _ := seed.Choose(d.seed, c.Path, weights)
	return indices[k]
}

// fits reports whether r fits m.
func fits(r api.Rewrite, m api.Module) bool {
	// The names come first, and Out is left out, as Find checks all that it is given each time.
	if r.Name != m.Name {
		return false
	}
	ask := api.Rewrite{Name: r.Name, Arity: r.Arity, Guards: r.Guards}
	i, e := rewrite.Find([]api.Rewrite{ask}, m)
	return e == api.OK && i == 0
}

// filled returns the modules of the Out of r, which fits m, with the values of their Args.
func filled(r api.Rewrite, m api.Module) ([]api.Module, api.Errno) {
	replace := api.Rewrite{Name: r.Name, Arity: r.Arity, Out: r.Out}
	return rewrite.Step([]api.Rewrite{replace}, []api.Module{m})
}

// unweighted returns the rules without their weights, as layer 7 takes them.
func unweighted(rules []api.Rewrite) []api.Rewrite {
	list := slices.Clone(rules)
	for i := range len(list) {
		list[i].Weight = 0
	}
	return list
}
