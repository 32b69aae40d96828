package seed_test

import (
	"math"
	"strings"
	"testing"

	"gambrel/api"
	"gambrel/seed"
)

func TestOf(t *testing.T) {
	for _, c := range []struct {
		s    int64
		p    string
		want uint64
	}{
		{0, "", 0xE220A8397B1DCDAF},
		{1, "", 0xE4D971771B652C20},
		{-1, "", 0xDE0A564CBCD060C4},
		{math.MinInt64, "", 0x481EC0A212A9F3DB},
		{math.MaxInt64, "", 0x39CA3C835068D818},
		{0, "a", 0xD582412F6E474B8F},
		{0, "\x00", 0x623D7033FFF4157D},
		{0, "\x00\x00", 0x91470E883AD4008B},
		{0, "\xff", 0x193B7175ECEF907B},
		{7, "tower/floor[3]/window", 0x4A4375D4D869EB60},
		{-7, "tower/floor[3]/window", 0xB5AA2A94523D8B6A},
		{42, "\u00e4", 0x97E3F155E413FC22},
		{42, "a\x00b\x80\xff", 0xE89B7AE96EEBC41B},
		{math.MinInt64, strings.Repeat("\xff", 200), 0x4644DB238AD1BA5A},
		{math.MaxInt64, strings.Repeat("a", 4000), 0x2490C2DBC586EFF0},
	} {
		if h := seed.Of(c.s, c.p); h != c.want {
			t.Errorf("%d %q %X", c.s, c.p, h)
		}
	}
}

func TestOfAllPairs(t *testing.T) {
	for _, p := range paths() {
		for _, s := range seeds() {
			if h := seed.Of(s, p); h != numberOf(s, p) {
				t.Errorf("%d %q %X", s, p, h)
			}
		}
	}
}

func TestOfAllBytes(t *testing.T) {
	for b := range 256 {
		c := string([]byte{byte(b)})
		for _, p := range []string{c, c + c, "a" + c, c + "a", "\xe2\x82" + c, c + "\x80\x80"} {
			if h := seed.Of(-5, p); h != numberOf(-5, p) {
				t.Errorf("%q %X", p, h)
			}
		}
	}
}

func TestDraw(t *testing.T) {
	for _, c := range []struct {
		s    int64
		p    string
		n    int
		want int
	}{
		{0, "", 1000000000, 658607535},
		{-1, "", 1000000000, 772384452},
		{math.MinInt64, "", 1000000000, 362493915},
		{0, "\x00", 1000000000, 936117117},
		{7, "tower/floor[3]/window", 1000000000, 270617952},
		{7, "tower/floor[3]/window", 10, 2},
		{7, "tower/floor[3]/window", 2, 0},
		{-7, "tower/floor[3]/window", 100, 34},
	} {
		if got, e := seed.Draw(c.s, c.p, c.n); got != c.want || e != api.OK {
			t.Errorf("%d %q %d: %d %v", c.s, c.p, c.n, got, e)
		}
	}
}

func TestDrawOfAllPairs(t *testing.T) {
	for _, p := range paths() {
		for _, s := range seeds() {
			h := numberOf(s, p)
			for _, n := range []int{1, 2, 3, 4, 7, 10, 16, 255, 256, 257, 1000, 65536, 999999, 1 << 20, 999999937, api.MaxWeight - 1, api.MaxWeight} {
				if got, e := seed.Draw(s, p, n); got != rest(h, n) || e != api.OK {
					t.Errorf("%d %q %d: %d %v", s, p, n, got, e)
				}
			}
		}
	}
}

func TestDrawOfOneIsZero(t *testing.T) {
	for _, p := range paths() {
		for _, s := range seeds() {
			if got, e := seed.Draw(s, p, 1); got != 0 || e != api.OK {
				t.Errorf("%d %q %d %v", s, p, got, e)
			}
		}
	}
}

func TestDrawOutOfRange(t *testing.T) {
	for _, p := range []string{"", "a", "\xff\x00"} {
		for _, s := range seeds() {
			for _, n := range []int{0, -1, -2, -api.MaxWeight, api.MaxWeight + 1, api.MaxWeight + 2, 1 << 31, 1 << 32, 1<<32 + 1, math.MaxInt, math.MinInt, math.MinInt + 1} {
				if got, e := seed.Draw(s, p, n); got != 0 || e != api.ErrArg {
					t.Errorf("%d %q %d: %d %v", s, p, n, got, e)
				}
			}
		}
	}
}
