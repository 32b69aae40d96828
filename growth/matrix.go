package growth

import "gambrel/api"

// element is a type that holds MaxCount, wherever the program runs.
type element interface {
	~int64 | ~uint64
}

// matrix is a list of rows of elements.
type matrix[E element] [][]E

// valid reports whether m has as many rows as columns, at most MaxSymbols, and all its elements are from 0 to MaxCount.
func (m matrix[E]) valid() bool {
	if len(m) > api.MaxSymbols {
		return false
	}
	for _, row := range m {
		if len(row) != len(m) {
			return false
		}
		for _, x := range row {
			if x < 0 || x > E(api.MaxCount) {
				return false
			}
		}
	}
	return true
}

// times returns the product of m and other, two valid matrices with as many rows, or ErrRange.
func (m matrix[E]) times(other matrix[E]) (matrix[E], api.Errno) {
	var product matrix[E]
	for _, row := range m {
		next, e := other.after(row)
		if e != api.OK {
			return nil, e
		}
		product = append(product, next)
	}
	return product, api.OK
}

// after returns the product of a row and m, or ErrRange if an element of it is greater than MaxCount. The row has as many elements as m has rows, and all are from 0 to MaxCount.
func (m matrix[E]) after(row []E) ([]E, api.Errno) {
	var sums [api.MaxSymbols]E
	for i, x := range row {
		for k, y := range m[i] {
			// By a quotient, as a product may not fit into 64 bits.
			if x > 0 && y > (E(api.MaxCount)-sums[k])/x {
				return nil, api.ErrRange
			}
			sums[k] += x * y
		}
	}
	return append([]E(nil), sums[:len(row)]...), api.OK
}
