package code_test

import (
	"bytes"
	"math"
	"slices"
	"testing"

	"reglet/api"
	"reglet/code"
)

// others are numbers that a number may be changed to: by little, by its sign, by what a byte or two can't hold, to the ends.
func others(x int) []int {
	l := []int{x + 1, x - 1, x + 3, x - 3, -x, ^x, 0, 1, -1, 127, 128, 255, 256, -128, -129, 32767, 32768, 65535, 65536, -32768, -32769,
		x + 1<<8, x - 1<<8, x + 1<<16, x - 1<<16, x + 1<<32, x - 1<<32, x + math.MinInt, math.MinInt, math.MaxInt, math.MinInt32, math.MaxInt32}
	return slices.DeleteFunc(l, func(y int) bool { return x == y })
}

// ordinary has an instruction of each row, ways there, back and to itself.
func ordinary() []api.Op {
	return []api.Op{
		{Pc: 0, Code: 0},
		{Pc: 1, Code: 21, A: 200},
		{Pc: 3, Code: 16, A: -100},
		{Pc: 5, Code: 17, A: -1000},
		{Pc: 8, Code: 19, A: 40000},
		{Pc: 11, Code: 132, A: 200, B: -100},
		{Pc: 14, Code: 153, A: 20},
		{Pc: 17, Code: 167, A: 1},
		{Pc: 20, Code: 198, A: 20},
		{Pc: 23, Code: 191},
	}
}

const ordinaryCode = "\x00\x15\xc8\x10\x9c\x11\xfc\x18\x13\x9c\x40\x84\xc8\x9c\x99\x00\x06\xa7\xff\xf0\xc6\x00\x00\xbf"

func TestOrdinaryList(t *testing.T) {
	checkEncode(t, ordinary(), []byte(ordinaryCode))
	checkDecode(t, []byte(ordinaryCode), ordinary(), api.OK)
}

// TestEachSpotChanged: Pc may be no other number; a code, an A or a B only such as makes code too, by the reference's word.
func TestEachSpotChanged(t *testing.T) {
	for i := range ordinary() {
		for _, spot := range []func(op *api.Op) *int{
			func(op *api.Op) *int { return &op.Pc },
			func(op *api.Op) *int { return &op.Code },
			func(op *api.Op) *int { return &op.A },
			func(op *api.Op) *int { return &op.B },
		} {
			l := ordinary()
			x := spot(&l[i])
			for _, y := range others(*x) {
				*x = y
				checkEncode(t, l, wantEncode(l))
			}
		}
		l := ordinary()
		for _, pc := range others(l[i].Pc) {
			l[i].Pc = pc
			checkRefused(t, l)
		}
	}
}

func TestPlacesOfInstructions(t *testing.T) {
	for _, pc := range others(0) {
		checkRefused(t, []api.Op{{Pc: pc}})
		// That it leads to where it says that it stands makes it no better.
		checkRefused(t, []api.Op{{Pc: pc, Code: 167, A: pc}})
		checkRefused(t, []api.Op{{Pc: pc, Code: 167}})
		checkRefused(t, []api.Op{{Pc: pc, Code: 177}, {Pc: pc, Code: 177}})
	}
	// Two at one place, a gap between, the wrong way about, one lost in the middle, at the front.
	checkRefused(t, []api.Op{{}, {}})
	checkRefused(t, []api.Op{{}, {Pc: 2}})
	checkRefused(t, []api.Op{{Code: 16}, {Pc: 1}})
	checkRefused(t, []api.Op{{Code: 16}, {Pc: 3}})
	checkRefused(t, []api.Op{{Pc: 1}, {Pc: 0}})
	for i := range ordinary() {
		if i < len(ordinary())-1 {
			checkRefused(t, slices.Delete(ordinary(), i, i+1))
		}
		checkRefused(t, slices.Insert(ordinary(), i, ordinary()[i]))
	}
	// All are one too far, their ways too.
	l := ordinary()
	for i := range l {
		l[i].Pc++
		if rows[l[i].Code].way {
			l[i].A++
		}
	}
	checkRefused(t, l)
}

// TestNumbersThatARowHasNot: of every code, A and B past their ends, or where there is none.
func TestNumbersThatARowHasNot(t *testing.T) {
	for _, c := range codes() {
		r := rows[c]
		good := api.Op{Code: c}
		if len(wantEncode([]api.Op{good})) != wantSize(c) {
			t.Fatalf("%d has no bytes", c)
		}
		checkEncode(t, []api.Op{good}, wantEncode([]api.Op{good}))
		if !r.way {
			for _, a := range past(r.a) {
				checkRefused(t, []api.Op{{Code: c, A: a}})
				checkRefused(t, []api.Op{{}, {Pc: 1, Code: c, A: a}, {Pc: 1 + wantSize(c)}})
			}
		}
		for _, b := range past(r.b) {
			checkRefused(t, []api.Op{{Code: c, B: b}})
			checkRefused(t, []api.Op{{}, {Pc: 1, Code: c, A: good.A, B: b}, {Pc: 1 + wantSize(c)}})
		}
	}
}

// past are numbers that are out of a number's range, some of them the same but for bits that its bytes haven't.
func past(n number) []int {
	var l []int
	for _, x := range []int{n.low, n.high} {
		l = append(l, others(x)...)
	}
	return slices.DeleteFunc(l, func(x int) bool { return x >= n.low && x <= n.high })
}

func TestCodesThatAreNoneEncoded(t *testing.T) {
	for _, c := range anyCodes() {
		if wantSize(c) > 0 {
			continue
		}
		checkRefused(t, []api.Op{{Code: c}})
		// With the next one at each place that it could have.
		for size := range 4 {
			checkRefused(t, []api.Op{{Code: c}, {Pc: size}})
			checkRefused(t, []api.Op{{}, {Pc: 1, Code: c}, {Pc: 1 + size, Code: 177}})
		}
		checkRefused(t, []api.Op{{}, {Pc: 1, Code: c}})
		checkRefused(t, []api.Op{{}, {Pc: 1, Code: c, A: 1, B: 1}})
	}
}

func TestWaysToNoInstruction(t *testing.T) {
	for _, c := range leading() {
		ahead := []api.Op{{Code: 17}, {Pc: 3, Code: int(c), A: 0}, {Pc: 6, Code: 16}, {Pc: 8}}
		for _, to := range []int{0, 3, 6, 8} {
			ahead[1].A = to
			way := to - 3
			checkEncode(t, ahead, []byte{17, 0, 0, c, byte(way >> 8), byte(way), 16, 0, 0})
		}
		for _, to := range []int{1, 2, 4, 5, 7, 9, 10, 12, 4000, 4001, 32767, 32768, 32770, 32771, 65536, 65539, 65544, -1, -2, -3, -32765, -32766, -65533,
			3 + 1<<32, 3 - 1<<32, 3 + 1<<16, 3 + 1<<8, 6 + 1<<16, math.MaxInt, math.MinInt, math.MinInt + 2, math.MinInt + 3, math.MinInt + 6} {
			ahead[1].A = to
			checkRefused(t, ahead)
		}
		// To an instruction's Pc that is no place of it.
		checkRefused(t, []api.Op{{Code: int(c), A: 7}, {Pc: 7}})
		checkRefused(t, []api.Op{{Code: int(c), A: -4}, {Pc: -4}})
		checkRefused(t, []api.Op{{Code: int(c), A: 1 << 16}, {Pc: 1 << 16}})
	}
}

func TestNoInstruction(t *testing.T) {
	checkRefused(t, nil)
	checkRefused(t, []api.Op{})
	checkRefused(t, []api.Op{{}, {Pc: 1}}[:0])
}

// follow are n instructions with the codes in turn, their places as they must be.
func follow(n int, codes ...int) []api.Op {
	var l []api.Op
	at := 0
	for i := range n {
		c := codes[i%len(codes)]
		op := api.Op{Pc: at, Code: c}
		if rows[c].way {
			op.A = at
		}
		l = append(l, op)
		at += wantSize(c)
	}
	return l
}

func TestLongestLists(t *testing.T) {
	checkEncode(t, follow(3999, 0), make([]byte, 3999))
	checkEncode(t, follow(4000, 0), make([]byte, 4000))
	checkEncode(t, follow(2000, 16), bytes.Repeat([]byte{16, 0}, 2000))
	checkEncode(t, follow(1333, 167), bytes.Repeat([]byte{167, 0, 0}, 1333))
	for _, l := range [][]api.Op{
		follow(4001, 0), follow(2001, 16), follow(1334, 17), follow(1334, 167), follow(4002, 0), follow(8000, 0), follow(70000, 0, 16),
		// 4000 bytes end in the middle of the last one, or right ahead of it.
		append(follow(3999, 0), api.Op{Pc: 3999, Code: 16}), append(follow(3999, 0), api.Op{Pc: 3999, Code: 17}),
		append(follow(3998, 0), api.Op{Pc: 3998, Code: 17}), append(follow(4000, 0), api.Op{Pc: 4000, Code: 17}),
	} {
		checkRefused(t, l)
	}
	last := append(follow(3997, 0), api.Op{Pc: 3997, Code: 167})
	checkEncode(t, last, append(make([]byte, 3997), 167, 0xf0, 0x63))
	first := append([]api.Op{{Code: 167, A: 3999}}, follow(4000, 0)[3:]...)
	checkEncode(t, first, append([]byte{167, 0x0f, 0x9f}, make([]byte, 3997)...))
	first[0].A = 4000
	checkRefused(t, first)
	checkRefused(t, append(first, api.Op{Pc: 4000}))
}

// TestGreatLists: whatever is in them, they are refused at once, and without growing what is laid.
func TestGreatLists(t *testing.T) {
	for _, op := range []api.Op{{}, {Code: 17}, {Code: 98}, {Code: -1}, {Code: 167, A: -1}, {Pc: math.MinInt, Code: 167, A: math.MaxInt}} {
		l := slices.Repeat([]api.Op{op}, 1<<20)
		if b, e := code.Encode(l); e != argError || len(b) != 0 {
			t.Errorf("a great many %+v: %d bytes, %v", op, len(b), e)
		}
	}
}
