package num_test

import (
	"math/big"
	"math/rand"
	"testing"

	"reglet/num"
)

// The reference computes without any bound and wraps what comes out, so that it shares no edge with the machine's numbers.

var sums = map[int]func(z, a, b *big.Int) *big.Int{
	96:  (*big.Int).Add,
	100: (*big.Int).Sub,
	104: (*big.Int).Mul,
	108: (*big.Int).Quo,
	112: (*big.Int).Rem,
	126: (*big.Int).And,
	128: (*big.Int).Or,
	130: (*big.Int).Xor,
}

// lowest is x's lowest bits, as a number from 0 on.
func lowest(x *big.Int, bits uint) *big.Int {
	return new(big.Int).Mod(x, new(big.Int).Lsh(big.NewInt(1), bits))
}

// signed is x's lowest bits, the highest of them being the sign.
func signed(x *big.Int, bits uint) int64 {
	y := lowest(x, bits)
	if y.Bit(int(bits)-1) == 1 {
		y.Sub(y, new(big.Int).Lsh(big.NewInt(1), bits))
	}
	return y.Int64()
}

// wantSum is the table's word for two numbers of so many bits, by the code of ints.
func wantSum(code int, a, b int64, bits uint) int64 {
	x, y := big.NewInt(a), big.NewInt(b)
	count := uint(lowest(y, 64).Uint64() % uint64(bits))
	switch code {
	case 108, 112:
		if b == 0 {
			return 0
		}
	case 120:
		return signed(x.Lsh(x, count), bits)
	case 122:
		return signed(x.Rsh(x, count), bits)
	case 124:
		x = lowest(x, bits)
		return signed(x.Rsh(x, count), bits)
	}
	if f, ok := sums[code]; ok {
		return signed(f(new(big.Int), x, y), bits)
	}
	return 0
}

func wantInt(code int, a, b int32) int32 {
	return int32(wantSum(code, int64(a), int64(b), 32))
}

func wantLong(code int, a, b int64) int64 {
	// Of the least code one less would wrap; no table has either.
	if code < 0 {
		return 0
	}
	return wantSum(code-1, a, b, 64)
}

func wantTwo(code int, a, b int64) int64 {
	if code == 148 {
		return int64(big.NewInt(a).Cmp(big.NewInt(b)))
	}
	if code%2 == 0 {
		return wantSum(code, signed(big.NewInt(a), 32), signed(big.NewInt(b), 32), 32)
	}
	return wantLong(code, a, b)
}

func wantOne(code int, a int64) int64 {
	x := big.NewInt(a)
	switch code {
	case 116:
		return signed(x.Neg(x), 32)
	case 117:
		return signed(x.Neg(x), 64)
	case 133, 136:
		return signed(x, 32)
	case 145:
		return signed(x, 8)
	case 146:
		return lowest(x, 16).Int64()
	case 147:
		return signed(x, 16)
	}
	return 0
}

// allCodes are all codes of the lists, far more about them, and such as are those but for a sign or for high bits.
func allCodes() []int {
	l := []int{leastLong, leastLong + 1, leastInt, mostInt, mostLong - 1, mostLong}
	for code := -300; code <= 600; code++ {
		l = append(l, code)
	}
	for code := 96; code <= 148; code++ {
		l = append(l, code+1<<16, code+1<<32, code-1<<32)
	}
	return l
}

// edges are numbers about those at which something turns: signs, widths, counts of shifts.
func edges() []int64 {
	l := []int64{leastLong, leastLong + 1, mostLong, mostLong - 1}
	for _, bits := range []uint{0, 1, 3, 5, 6, 7, 8, 15, 16, 31, 32, 33, 40, 62} {
		for _, x := range []int64{1 << bits, -1 << bits} {
			l = append(l, x-1, x, x+1)
		}
	}
	return l
}

func checkBoth(t *testing.T, code int, a, b int64) {
	t.Helper()
	x, y := int32(a), int32(b)
	if got, want := num.Int(code, x, y), wantInt(code, x, y); got != want {
		t.Fatalf("Int(%d, %d, %d) = %d, want %d", code, x, y, got, want)
	}
	if got, want := num.Long(code, a, b), wantLong(code, a, b); got != want {
		t.Fatalf("Long(%d, %d, %d) = %d, want %d", code, a, b, got, want)
	}
	if got, want := num.Two(code, a, b), wantTwo(code, a, b); got != want {
		t.Fatalf("Two(%d, %d, %d) = %d, want %d", code, a, b, got, want)
	}
}

func checkOne(t *testing.T, code int, a int64) {
	t.Helper()
	if got, want := num.One(code, a), wantOne(code, a); got != want {
		t.Fatalf("One(%d, %d) = %d, want %d", code, a, got, want)
	}
}

func TestReferenceAtEdges(t *testing.T) {
	l := edges()
	for code := 90; code <= 150; code++ {
		for _, a := range l {
			checkOne(t, code, a)
			for _, b := range l {
				checkBoth(t, code, a, b)
			}
		}
	}
}

func TestReferenceAtAllCodes(t *testing.T) {
	l := []int64{0, 1, -1, 7, -7, leastInt, mostInt, leastLong, mostLong}
	for _, code := range allCodes() {
		for _, a := range l {
			checkOne(t, code, a)
			for _, b := range l {
				checkBoth(t, code, a, b)
			}
		}
	}
}

func TestReferenceAtManyNumbers(t *testing.T) {
	// The seed is fixed: a fault must come again.
	r := rand.New(rand.NewSource(1))
	for range 2000 {
		// Shifted, so that small numbers come too.
		a, b := int64(r.Uint64())>>r.Intn(64), int64(r.Uint64())>>r.Intn(64)
		for code := range kindRows {
			checkOne(t, code, a)
			checkBoth(t, code, a, b)
		}
	}
}

func TestIntsThereAndBack(t *testing.T) {
	for _, x := range edges() {
		a := int32(x)
		for _, y := range edges() {
			b := int32(y)
			if b == 0 {
				continue
			}
			quotient, rest := num.Int(108, a, b), num.Int(112, a, b)
			if num.Int(96, num.Int(104, quotient, b), rest) != a {
				t.Fatalf("%d is not %d times %d and %d", a, quotient, b, rest)
			}
		}
		for count := int32(0); count < 32; count++ {
			left := num.Int(120, a, count)
			if num.Int(124, left, count) != num.Int(126, a, num.Int(124, -1, count)) {
				t.Fatalf("%d by %d there and back with zeros", a, count)
			}
			if want := signed(big.NewInt(x), uint(32-count)); int64(num.Int(122, left, count)) != want {
				t.Fatalf("%d by %d there and back with the sign", a, count)
			}
		}
	}
}

func TestLongsThereAndBack(t *testing.T) {
	for _, a := range edges() {
		for _, b := range edges() {
			if b == 0 {
				continue
			}
			quotient, rest := num.Long(109, a, b), num.Long(113, a, b)
			if num.Long(97, num.Long(105, quotient, b), rest) != a {
				t.Fatalf("%d is not %d times %d and %d", a, quotient, b, rest)
			}
		}
		for count := int64(0); count < 64; count++ {
			left := num.Long(121, a, count)
			if num.Long(125, left, count) != num.Long(127, a, num.Long(125, -1, count)) {
				t.Fatalf("%d by %d there and back with zeros", a, count)
			}
			if want := signed(big.NewInt(a), uint(64-count)); num.Long(123, left, count) != want {
				t.Fatalf("%d by %d there and back with the sign", a, count)
			}
		}
	}
}
