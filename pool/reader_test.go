package pool_test

import (
	"bytes"
	"math"
	"math/big"
	"math/rand"
	"strings"
	"testing"

	"reglet/pool"
)

// checkLeft holds what Left says against what is wanted.
func checkLeft(t *testing.T, r *pool.Reader, left int, whole bool) {
	t.Helper()
	if n, ok := r.Left(); n != left || ok != whole {
		t.Fatalf("Left() = %d, %v, want %d, %v", n, ok, left, whole)
	}
}

// checkNum and checkTake hold an answer, and what is left behind it, against what is wanted.
func checkNum(t *testing.T, r *pool.Reader, n int, want uint64, left int, whole bool) {
	t.Helper()
	if got := r.Num(n); got != want {
		t.Fatalf("Num(%d) = %d, want %d", n, got, want)
	}
	checkLeft(t, r, left, whole)
}

func checkTake(t *testing.T, r *pool.Reader, n int, want string, left int, whole bool) {
	t.Helper()
	if got := r.Take(n); got != want {
		t.Fatalf("Take(%d) = %q, want %q", n, got, want)
	}
	checkLeft(t, r, left, whole)
}

// noNumbers are counts of which there is no number.
var noNumbers = []int{0, 9, 10, 16, 64, -1, -2, -8, math.MaxInt, math.MinInt, math.MaxInt32, math.MinInt32}

func TestNumOfEachWidth(t *testing.T) {
	const b = "\x81\x02\xf3\x04\x85\x06\xf7\x08\xff"
	for n, want := range map[int]uint64{
		1: 0x81, 2: 0x8102, 3: 0x8102f3, 4: 0x8102f304, 5: 0x8102f30485, 6: 0x8102f3048506, 7: 0x8102f3048506f7, 8: 0x8102f3048506f708,
	} {
		r := pool.From([]byte(b))
		checkNum(t, r, n, want, len(b)-n, true)
		checkNum(t, r, 1, uint64(b[n]), len(b)-n-1, true)
	}
	checkNum(t, pool.From([]byte("\xff\xff\xff\xff\xff\xff\xff\xff")), 8, math.MaxUint64, 0, true)
	checkNum(t, pool.From(make([]byte, 8)), 8, 0, 0, true)
}

func TestNumOfNoWidthDoesNothing(t *testing.T) {
	for _, n := range noNumbers {
		r := pool.From([]byte("abc"))
		checkNum(t, r, n, 0, 3, true)
		checkTake(t, r, 3, "abc", 0, true)
		checkNum(t, r, n, 0, 0, true)
		checkNum(t, r, 1, 0, 0, false)
		checkNum(t, r, n, 0, 0, false)
	}
}

func TestNumCutOff(t *testing.T) {
	for n := 1; n <= 8; n++ {
		for left := range n {
			r := pool.From(bytes.Repeat([]byte{0xff}, left))
			checkNum(t, r, n, 0, 0, false)
			checkNum(t, r, 1, 0, 0, false)
			checkTake(t, r, 1, "", 0, false)
			checkTake(t, r, 0, "", 0, false)
		}
	}
}

func TestTake(t *testing.T) {
	r := pool.From([]byte("a\x00\xff\xc3bcd"))
	checkTake(t, r, 0, "", 7, true)
	checkTake(t, r, 1, "a", 6, true)
	checkTake(t, r, 3, "\x00\xff\xc3", 3, true)
	checkTake(t, r, 3, "bcd", 0, true)
	checkTake(t, r, 0, "", 0, true)
	checkTake(t, r, 1, "", 0, false)
	checkTake(t, r, 0, "", 0, false)
}

func TestTakeWrong(t *testing.T) {
	for _, n := range []int{4, 5, 1000, math.MaxInt32, math.MaxInt, -1, -3, math.MinInt32, math.MinInt} {
		r := pool.From([]byte("abc"))
		checkTake(t, r, n, "", 0, false)
		checkTake(t, r, 1, "", 0, false)
		checkNum(t, r, 1, 0, 0, false)
	}
	// A count below 0 is wrong where none is left, too.
	r := pool.From(nil)
	checkTake(t, r, -1, "", 0, false)
}

func TestReaderOfNothing(t *testing.T) {
	for _, b := range [][]byte{nil, {}} {
		r := pool.From(b)
		checkLeft(t, r, 0, true)
		checkTake(t, r, 0, "", 0, true)
		checkNum(t, r, 1, 0, 0, false)
	}
	var zero pool.Reader
	checkLeft(t, &zero, 0, true)
}

func TestNilReader(t *testing.T) {
	var r *pool.Reader
	for n := -2; n < 10; n++ {
		checkNum(t, r, n, 0, 0, false)
		checkTake(t, r, n, "", 0, false)
	}
	checkRead(t, r, nil, endError)
}

func TestReaderKeepsNothingHandedIn(t *testing.T) {
	// The room behind the list is filled, so that a change there would be seen.
	room := []byte("abcdefgh")
	b := room[2:5]
	r := pool.From(b)
	checkTake(t, r, 1, "c", 2, true)
	copy(room, "XXXXXXXX")
	checkNum(t, r, 1, 'd', 1, true)
	checkTake(t, r, 1, "e", 0, true)
	checkTake(t, r, 1, "", 0, false)
	if string(room) != "XXXXXXXX" {
		t.Fatalf("what was handed in is changed to %q", room)
	}
}

func TestReadersAreApart(t *testing.T) {
	b := []byte("abc")
	first, second := pool.From(b), pool.From(b)
	checkTake(t, first, 4, "", 0, false)
	checkTake(t, second, 3, "abc", 0, true)
}

// A model of a reader: all bytes, and how many are gone.
type model struct {
	b       []byte
	gone    int
	missing bool
}

func (m *model) take(n int) string {
	if n < 0 || len(m.b)-m.gone < n {
		m.gone, m.missing = len(m.b), true
		return ""
	}
	m.gone += n
	return string(m.b[m.gone-n : m.gone])
}

func (m *model) num(n int) uint64 {
	if n < 1 || n > 8 {
		return 0
	}
	return new(big.Int).SetBytes([]byte(m.take(n))).Uint64()
}

func TestReaderAgainstModel(t *testing.T) {
	// The seed is fixed: a fault must come again.
	r := rand.New(rand.NewSource(1))
	for range 4000 {
		b := make([]byte, r.Intn(40))
		r.Read(b)
		m := model{b: b}
		reader := pool.From(b)
		for range 20 {
			n := r.Intn(12) - 1
			if r.Intn(2) == 0 {
				want := m.num(n)
				checkNum(t, reader, n, want, len(b)-m.gone, !m.missing)
			} else {
				want := m.take(n)
				checkTake(t, reader, n, want, len(b)-m.gone, !m.missing)
			}
		}
	}
}

func TestLongReader(t *testing.T) {
	const n = 1 << 22
	r := pool.From([]byte(strings.Repeat("\x01\x02", n)))
	sum := uint64(0)
	for range n {
		sum += r.Num(2)
	}
	if sum != 0x102*n {
		t.Fatalf("the numbers' sum is %d", sum)
	}
	checkLeft(t, r, 0, true)
}
