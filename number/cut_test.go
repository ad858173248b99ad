package number

import (
	"testing"

	"legation/api"
)

// plainCut cuts down as the chapter words it, a digit at a time.
func plainCut(value int64, scale int) (int64, int) {
	for ; scale > api.MaxScale; scale-- {
		value /= 10
	}
	for ; scale != 0 && value%10 == 0; scale-- {
		value /= 10
	}
	return value, scale
}

// P2.2: a value and a scale up to 3 MaxScale cut down, towards 0, below 0 too.
func TestCutDown(t *testing.T) {
	for _, one := range []struct {
		value int64
		scale int
		v     int64
		s     int
	}{
		{0, 0, 0, 0}, {10, 0, 10, 0}, {0, 12, 0, 0}, {0, 4, 0, 0}, {10, 1, 1, 0}, {10, 4, 1, 3}, {1000000, 4, 100, 0}, {123, 4, 123, 4},
		{12345, 5, 1234, 4}, {-12345, 5, -1234, 4}, {19, 5, 1, 4}, {-19, 5, -1, 4}, {9, 5, 0, 0}, {-9, 5, 0, 0}, {109, 5, 1, 3}, {-109, 5, -1, 3},
		{100000000, 12, 1, 4}, {199999999, 12, 1, 4}, {-199999999, 12, -1, 4}, {99999999, 12, 0, 0}, {-99999999, 12, 0, 0}, {1000000000, 12, 1, 3}, {-1099999999, 12, -1, 3},
		{999999999999999999, 12, 9999999999, 4}, {-999999999999999999, 12, -9999999999, 4}, {100000000000000000, 12, 100000, 0},
		{1<<63 - 1, 12, 92233720368, 4}, {-1 << 63, 12, -92233720368, 4},
	} {
		if v, s := cutDown(one.value, one.scale); v != one.v || s != one.s {
			t.Errorf("%d %d: %d %d", one.value, one.scale, v, s)
		}
	}
	for scale := 0; scale <= 3*api.MaxScale; scale++ {
		for x := int64(1); x < 1<<61; x = x*3 + 7 {
			for _, value := range []int64{x, -x, x / 1000 * 1000, -x / 1000 * 1000} {
				v, s := cutDown(value, scale)
				if w, r := plainCut(value, scale); v != w || s != r {
					t.Errorf("%d %d: %d %d", value, scale, v, s)
				}
			}
		}
	}
}

// Each power stands at its exponent's place.
func TestPowers(t *testing.T) {
	power := int64(1)
	for i, p := range powers {
		if p != power {
			t.Errorf("%d: %d", i, p)
		}
		power *= 10
	}
}
