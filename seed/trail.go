package seed

import "strconv"

// trail is what a seed has become on its way along the bytes of a path, before it is mixed. Paths that begin alike go on from the same trail, so that what they share is gone along once.
type trail uint64

func begin(seed int64) trail {
	return trail(uint64(seed) ^ 0x9E3779B97F4A7C15)
}

// along returns the trail behind the bytes of path.
func (t trail) along(path string) trail {
	// By its length, as a range over the string itself has runes, not bytes.
	for i := range len(path) {
		t = (t ^ trail(path[i])) * 1099511628211
	}
	return t
}

// below returns the number of the path with i in decimal behind it.
func (t trail) below(i int) uint64 {
	return t.along(strconv.Itoa(i)).number()
}

// number returns the number of the seed and the path that the trail has gone along.
func (t trail) number() uint64 {
	h := uint64(t)
	h = (h ^ h>>30) * 0xBF58476D1CE4E5B9
	h = (h ^ h>>27) * 0x94D049BB133111EB
	return h ^ h>>31
}
