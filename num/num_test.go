package num_test

import (
	"math"
	"testing"

	"reglet/num"
)

const (
	leastInt  = math.MinInt32
	mostInt   = math.MaxInt32
	leastLong = math.MinInt64
	mostLong  = math.MaxInt64
)

type intCase struct {
	name       string
	code       int
	a, b, want int32
}

type longCase struct {
	name       string
	code       int
	a, b, want int64
}

func TestInt(t *testing.T) {
	for _, c := range []intCase{
		{"sum", 96, 2, 3, 5},
		{"sum wraps up", 96, mostInt, 1, leastInt},
		{"sum wraps down", 96, leastInt, -1, mostInt},
		{"difference", 100, 3, 5, -2},
		{"difference wraps", 100, leastInt, 1, mostInt},
		{"product", 104, -6, 7, -42},
		{"product wraps", 104, 65536, 65536, 0},
		{"product wraps to the least", 104, leastInt, -1, leastInt},
		{"quotient", 108, 7, 2, 3},
		{"quotient towards 0, of a negative", 108, -7, 2, -3},
		{"quotient towards 0, by a negative", 108, 7, -2, -3},
		{"quotient of two negatives", 108, -7, -2, 3},
		{"the least by -1", 108, leastInt, -1, leastInt},
		{"another number by -1", 108, 5, -1, -5},
		{"quotient by 0", 108, 5, 0, 0},
		{"the least by 0", 108, leastInt, 0, 0},
		{"rest", 112, 7, 2, 1},
		{"rest with a's sign", 112, -7, 2, -1},
		{"rest without b's sign", 112, 7, -2, 1},
		{"rest by -1", 112, 5, -1, 0},
		{"rest of the least by -1", 112, leastInt, -1, 0},
		{"rest by 0", 112, 5, 0, 0},
		{"left", 120, 3, 4, 48},
		{"left by none", 120, -9, 0, -9},
		{"left by 31", 120, 1, 31, leastInt},
		{"left by 32", 120, 1, 32, 1},
		{"left by 33", 120, 1, 33, 2},
		{"left by -1", 120, 1, -1, leastInt},
		{"right with the sign", 122, -8, 1, -4},
		{"right by 31", 122, leastInt, 31, -1},
		{"right by 32", 122, -8, 32, -8},
		{"right by -31", 122, -8, -31, -4},
		{"right with zeros", 124, -8, 28, 15},
		{"right with zeros by none", 124, -8, 0, -8},
		{"right with zeros by 32", 124, -8, 32, -8},
		{"right with zeros by -1", 124, -1, -1, 1},
		{"and", 126, 6, 3, 2},
		{"and of negatives", 126, -2, -3, -4},
		{"or", 128, 6, 3, 7},
		{"xor", 130, 6, 3, 5},
		{"xor with -1", 130, 5, -1, -6},
	} {
		if got := num.Int(c.code, c.a, c.b); got != c.want {
			t.Errorf("%s: Int(%d, %d, %d) = %d, want %d", c.name, c.code, c.a, c.b, got, c.want)
		}
	}
}

func TestLong(t *testing.T) {
	for _, c := range []longCase{
		{"sum", 97, 1 << 40, 3, 1<<40 + 3},
		{"sum wraps up", 97, mostLong, 1, leastLong},
		{"sum wraps down", 97, leastLong, -1, mostLong},
		{"difference", 101, 3, 1 << 40, 3 - 1<<40},
		{"difference wraps", 101, leastLong, 1, mostLong},
		{"product", 105, 1 << 20, 1 << 20, 1 << 40},
		{"product wraps", 105, 1 << 32, 1 << 32, 0},
		{"product wraps to the least", 105, leastLong, -1, leastLong},
		{"quotient towards 0", 109, -9, 4, -2},
		{"quotient by a great number", 109, mostLong, 1 << 32, 1<<31 - 1},
		{"the least by -1", 109, leastLong, -1, leastLong},
		{"the least int by -1", 109, leastInt, -1, -leastInt},
		{"quotient by 0", 109, 5, 0, 0},
		{"quotient by a number whose lowest 32 bits are 0", 109, 1 << 33, 1 << 32, 2},
		{"rest with a's sign", 113, -9, 4, -1},
		{"rest without b's sign", 113, 9, -4, 1},
		{"rest of the least by -1", 113, leastLong, -1, 0},
		{"rest by 0", 113, 5, 0, 0},
		{"left by 40", 121, 1, 40, 1 << 40},
		{"left by 63", 121, 1, 63, leastLong},
		{"left by 64", 121, 1, 64, 1},
		{"left by 65", 121, 1, 65, 2},
		{"left by -1", 121, 1, -1, leastLong},
		{"right with the sign", 123, -8, 1, -4},
		{"right by 63", 123, leastLong, 63, -1},
		{"right by 64", 123, -8, 64, -8},
		{"right with zeros", 125, -1, 63, 1},
		{"right with zeros by 32", 125, -1, 32, 1<<32 - 1},
		{"right with zeros by none", 125, -1, 0, -1},
		{"right with zeros by 64", 125, -1, 64, -1},
		{"right with zeros by -1", 125, -1, -1, 1},
		{"and", 127, 1<<40 + 6, 1<<40 + 3, 1<<40 + 2},
		{"or", 129, 1 << 40, 3, 1<<40 + 3},
		{"xor", 131, 1<<40 + 6, 1<<40 + 3, 5},
	} {
		if got := num.Long(c.code, c.a, c.b); got != c.want {
			t.Errorf("%s: Long(%d, %d, %d) = %d, want %d", c.name, c.code, c.a, c.b, got, c.want)
		}
	}
}

func TestTwo(t *testing.T) {
	for _, c := range []longCase{
		{"below", 148, 1, 2, -1},
		{"is", 148, 2, 2, 0},
		{"above", 148, 3, 2, 1},
		{"the least and the most, whose difference wraps", 148, leastLong, mostLong, -1},
		{"the most and the least", 148, mostLong, leastLong, 1},
		{"compared by all 64 bits", 148, 1 << 32, 0, 1},
		{"the same but for the highest bits", 148, 5, 1<<40 + 5, -1},
		{"ints are cut", 96, 1 << 32, 5, 5},
		{"ints are cut to a sign", 96, 1 << 31, 0, leastInt},
		{"what comes out has its sign", 96, mostInt, 1, leastInt},
		{"a divisor that is cut to 0", 108, 7, 1 << 32, 0},
		{"a divisor that is cut to -1", 112, 7, 1<<32 - 1, 0},
		{"the least int by -1", 108, 1 << 31, -1, leastInt},
		{"an int's zeros end in a word with a sign", 124, 1<<40 - 1, 0, -1},
		{"longs are not cut", 97, 1 << 32, 5, 1<<32 + 5},
		{"a long's count is b's lowest six bits", 121, 1, 1<<32 + 33, 1 << 33},
	} {
		if got := num.Two(c.code, c.a, c.b); got != c.want {
			t.Errorf("%s: Two(%d, %d, %d) = %d, want %d", c.name, c.code, c.a, c.b, got, c.want)
		}
	}
}

func TestOne(t *testing.T) {
	for _, c := range []struct {
		name    string
		code    int
		a, want int64
	}{
		{"negative", 116, 5, -5},
		{"negative of the least int", 116, leastInt, leastInt},
		{"negative of what is cut", 116, 1<<32 + 5, -5},
		{"negative of what is cut to the least", 116, 1 << 31, leastInt},
		{"negative of a long", 117, 1 << 40, -1 << 40},
		{"negative of the least long", 117, leastLong, leastLong},
		{"negative of the least int as a long", 117, leastInt, 1 << 31},
		{"wider", 133, -5, -5},
		{"wider, of the lowest 32 bits alone", 133, 1 << 31, leastInt},
		{"cut", 136, 1<<40 + 5, 5},
		{"cut to a sign", 136, 1<<40 + 1<<31, leastInt},
		{"a byte", 145, 127, 127},
		{"a byte with a sign", 145, 200, -56},
		{"a byte of more bits", 145, 0x180, -128},
		{"a byte of a negative", 145, -129, 127},
		{"16 bits without sign", 146, -1, 65535},
		{"16 bits without sign, of more bits", 146, 1<<40 + 65536 + 32768, 32768},
		{"16 bits", 147, 32767, 32767},
		{"16 bits with a sign", 147, 40000, -25536},
		{"16 bits with a sign, of more bits", 147, 1<<40 + 65536 + 32768, -32768},
	} {
		if got := num.One(c.code, c.a); got != c.want {
			t.Errorf("%s: One(%d, %d) = %d, want %d", c.name, c.code, c.a, got, c.want)
		}
	}
}

// kindRows are the chapter's words on Kinds, a row a code; all other codes have none.
var kindRows = map[int][3]int{
	96: {1, 1, 1}, 97: {2, 2, 2}, 100: {1, 1, 1}, 101: {2, 2, 2}, 104: {1, 1, 1}, 105: {2, 2, 2},
	108: {1, 1, 1}, 109: {2, 2, 2}, 112: {1, 1, 1}, 113: {2, 2, 2},
	116: {1, 0, 1}, 117: {2, 0, 2},
	120: {1, 1, 1}, 121: {2, 1, 2}, 122: {1, 1, 1}, 123: {2, 1, 2}, 124: {1, 1, 1}, 125: {2, 1, 2},
	126: {1, 1, 1}, 127: {2, 2, 2}, 128: {1, 1, 1}, 129: {2, 2, 2}, 130: {1, 1, 1}, 131: {2, 2, 2},
	133: {1, 0, 2}, 136: {2, 0, 1}, 145: {1, 0, 1}, 146: {1, 0, 1}, 147: {1, 0, 1}, 148: {2, 2, 1},
}

func TestKinds(t *testing.T) {
	for _, code := range allCodes() {
		a, b, c := num.Kinds(code)
		if got := [3]int{a, b, c}; got != kindRows[code] {
			t.Errorf("Kinds(%d) = %v, want %v", code, got, kindRows[code])
		}
	}
}

func TestHolds(t *testing.T) {
	for _, c := range []struct {
		a, b int64
		want [6]bool
	}{
		{1, 2, [6]bool{false, true, true, false, false, true}},
		{2, 2, [6]bool{true, false, false, true, false, true}},
		{3, 2, [6]bool{false, true, false, true, true, false}},
		{-1, 1, [6]bool{false, true, true, false, false, true}},
		{leastLong, mostLong, [6]bool{false, true, true, false, false, true}},
		{mostLong, leastLong, [6]bool{false, true, false, true, true, false}},
		{1 << 32, 0, [6]bool{false, true, false, true, true, false}},
		{leastLong, leastLong, [6]bool{true, false, false, true, false, true}},
	} {
		for cond, want := range c.want {
			if num.Holds(int64(cond), c.a, c.b) != want {
				t.Errorf("Holds(%d, %d, %d) = %v", cond, c.a, c.b, !want)
			}
		}
		for _, cond := range []int64{-1, 6, 7, 256, 1 << 32, 1<<32 + 5, -1 << 32, leastLong, mostLong} {
			if num.Holds(cond, c.a, c.b) {
				t.Errorf("Holds(%d, %d, %d) = true", cond, c.a, c.b)
			}
		}
	}
}
