package code_test

import (
	"bytes"
	"math"
	"slices"
	"testing"

	"reglet/api"
	"reglet/code"
)

func TestExamplesOfTheChapter(t *testing.T) {
	checkDecode(t, []byte{0x10, 0xff, 0xb1}, []api.Op{{Pc: 0, Code: 16, A: -1}, {Pc: 2, Code: 177}}, api.OK)
	checkDecode(t, []byte{0xa7, 0, 3, 0xb1}, []api.Op{{Pc: 0, Code: 167, A: 3}, {Pc: 3, Code: 177}}, api.OK)
	checkFault(t, []byte{0xa7, 0, 2, 0xb1}, placeError)
	checkFault(t, []byte{0x62}, codeError)
}

// TestReferenceTable: the reference must have read the chapter's table as it is meant.
func TestReferenceTable(t *testing.T) {
	of := map[int]int{}
	for _, r := range rows {
		of[1+r.a.bytes+r.b.bytes]++
	}
	if len(rows) != 97 || of[1] != 57 || of[2] != 8 || of[3] != 32 {
		t.Fatalf("%d codes: %v", len(rows), of)
	}
}

// anyCodes are all bytes, numbers about them, and such as are codes but for a sign or for high bits.
func anyCodes() []int {
	l := []int{math.MinInt, math.MinInt + 1, math.MinInt32, math.MaxInt32, math.MaxInt - 1, math.MaxInt}
	for c := -600; c <= 1200; c++ {
		l = append(l, c)
	}
	for c := range 256 {
		l = append(l, c+1<<16, c-1<<16, c+1<<32, c-1<<32, c+math.MinInt, ^c)
	}
	return l
}

func TestSize(t *testing.T) {
	for c, want := range map[int]int{
		0: 1, 10: 1, 11: 0, 15: 0, 16: 2, 17: 3, 18: 0, 19: 3, 20: 0, 21: 2, 22: 2, 23: 0, 25: 2, 46: 1, 50: 1, 54: 2, 58: 2, 95: 1,
		96: 1, 98: 0, 117: 1, 118: 0, 119: 0, 120: 1, 131: 1, 132: 3, 133: 1, 134: 0, 136: 1, 144: 0, 145: 1, 148: 1, 149: 0, 152: 0,
		153: 3, 167: 3, 168: 0, 172: 1, 174: 0, 177: 1, 178: 3, 185: 3, 186: 0, 187: 3, 188: 2, 189: 3, 190: 1, 191: 1, 192: 3, 193: 3,
		194: 0, 197: 0, 198: 3, 199: 3, 200: 0, 255: 0, -1: 0, 256: 0, 272: 0,
	} {
		if got := code.Size(c); got != want {
			t.Errorf("Size(%d) = %d, want %d", c, got, want)
		}
	}
	for _, c := range anyCodes() {
		if got, want := code.Size(c), wantSize(c); got != want {
			t.Errorf("Size(%d) = %d, want %d", c, got, want)
		}
	}
}

func TestLeads(t *testing.T) {
	for _, c := range anyCodes() {
		if got, want := code.Leads(c), c >= 153 && c <= 167 || c == 198 || c == 199; got != want {
			t.Errorf("Leads(%d) = %v", c, got)
		}
	}
}

func TestEnds(t *testing.T) {
	for _, c := range anyCodes() {
		if got, want := code.Ends(c), slices.Contains([]int{167, 172, 173, 176, 177, 191}, c); got != want {
			t.Errorf("Ends(%d) = %v", c, got)
		}
	}
}

// TestNumbersAtTheirEnds tells a code of each row by hand.
func TestNumbersAtTheirEnds(t *testing.T) {
	for b, want := range map[string]api.Op{
		"\x00": {Code: 0}, "\x08": {Code: 8}, "\xbf": {Code: 191}, "\x94": {Code: 148},
		"\x15\x00": {Code: 21}, "\x15\x01": {Code: 21, A: 1}, "\x15\x7f": {Code: 21, A: 127}, "\x15\x80": {Code: 21, A: 128}, "\x15\xff": {Code: 21, A: 255},
		"\xbc\x00": {Code: 188}, "\xbc\x0a": {Code: 188, A: 10}, "\xbc\xff": {Code: 188, A: 255},
		"\x10\x00": {Code: 16}, "\x10\x01": {Code: 16, A: 1}, "\x10\x7f": {Code: 16, A: 127}, "\x10\x80": {Code: 16, A: -128}, "\x10\xff": {Code: 16, A: -1},
		"\x11\x00\x00": {Code: 17}, "\x11\x00\x80": {Code: 17, A: 128}, "\x11\x00\xff": {Code: 17, A: 255}, "\x11\x01\x02": {Code: 17, A: 258},
		"\x11\x7f\xff": {Code: 17, A: 32767}, "\x11\x80\x00": {Code: 17, A: -32768}, "\x11\xff\xff": {Code: 17, A: -1}, "\x11\xff\x00": {Code: 17, A: -256},
		"\x13\x00\x00": {Code: 19}, "\x13\x00\x80": {Code: 19, A: 128}, "\x13\x01\x02": {Code: 19, A: 258},
		"\x13\x7f\xff": {Code: 19, A: 32767}, "\x13\x80\x00": {Code: 19, A: 32768}, "\x13\xff\xff": {Code: 19, A: 65535},
		"\xc1\xff\xfe": {Code: 193, A: 65534},
		"\x84\x00\x00": {Code: 132}, "\x84\xff\x7f": {Code: 132, A: 255, B: 127}, "\x84\x7f\x80": {Code: 132, A: 127, B: -128}, "\x84\x80\xff": {Code: 132, A: 128, B: -1}, "\x84\x01\x02": {Code: 132, A: 1, B: 2},
		"\xa7\x00\x00": {Code: 167}, "\xc7\x00\x00": {Code: 199},
	} {
		checkDecode(t, []byte(b), []api.Op{want}, api.OK)
		want.Pc = 1
		if want.Code == 167 || want.Code == 199 {
			want.A = 1
		}
		checkDecode(t, []byte("\x00"+b), []api.Op{{}, want}, api.OK)
	}
}

// TestEveryCodeAtItsEnds: each code, with each number of its row at both ends and about 0.
func TestEveryCodeAtItsEnds(t *testing.T) {
	for _, c := range codes() {
		r := rows[c]
		if r.way {
			continue
		}
		for _, a := range []int{r.a.low, min(r.a.low+1, r.a.high), 0, max(r.a.high-1, r.a.low), r.a.high} {
			for _, b := range []int{r.b.low, 0, r.b.high} {
				l := []api.Op{{Code: 1}, {Pc: 1, Code: c, A: a, B: b}, {Pc: 1 + wantSize(c), Code: 177}}
				want := wantEncode(l)
				if len(want) != 2+wantSize(c) {
					t.Fatalf("% x are the bytes of %+v", want, l)
				}
				checkEncode(t, l, want)
				checkDecode(t, want, l, api.OK)
			}
		}
	}
}

// leading are the codes of the sixth row.
func leading() []byte {
	var l []byte
	for _, c := range codes() {
		if rows[c].way {
			l = append(l, byte(c))
		}
	}
	return l
}

func TestWays(t *testing.T) {
	for _, c := range leading() {
		op := api.Op{Code: int(c)}
		to := func(at, place int) api.Op { return api.Op{Pc: at, Code: op.Code, A: place} }
		// To itself, at the beginning and behind it.
		checkDecode(t, []byte{c, 0, 0}, []api.Op{to(0, 0)}, api.OK)
		checkDecode(t, []byte{0, 0, c, 0, 0}, []api.Op{{}, {Pc: 1}, to(2, 2)}, api.OK)
		// Forward, to the next one and past it.
		checkDecode(t, []byte{c, 0, 3, 0}, []api.Op{to(0, 3), {Pc: 3}}, api.OK)
		checkDecode(t, []byte{c, 0, 5, 16, 0, 1}, []api.Op{to(0, 5), {Pc: 3, Code: 16}, {Pc: 5, Code: 1}}, api.OK)
		// Back, by one byte and to the beginning.
		checkDecode(t, []byte{0, c, 0xff, 0xff}, []api.Op{{}, to(1, 0)}, api.OK)
		checkDecode(t, []byte{17, 0, 0, 0, c, 0xff, 0xfc}, []api.Op{{Code: 17}, {Pc: 3}, to(4, 0)}, api.OK)
		// To each other, and by a way that is more than a byte.
		checkDecode(t, []byte{c, 0, 3, c, 0xff, 0xfd}, []api.Op{to(0, 3), to(3, 0)}, api.OK)
		checkReference(t, slices.Concat([]byte{c, 1, 3}, make([]byte, 257)))
		checkReference(t, slices.Concat(make([]byte, 257), []byte{c, 0xfe, 0xff}))
	}
}

func TestLongestWays(t *testing.T) {
	for _, c := range leading() {
		there := slices.Concat([]byte{c, 0x0f, 0x9f}, make([]byte, 3997))
		l, e := code.Decode(there)
		if e != api.OK || len(l) != 3998 || l[0].A != 3999 || l[3997].Pc != 3999 {
			t.Fatalf("%d by 3999: %v", c, e)
		}
		checkReference(t, there)
		back := slices.Concat(make([]byte, 3997), []byte{c, 0xf0, 0x63})
		l, e = code.Decode(back)
		if e != api.OK || len(l) != 3998 || l[3997].A != 0 || l[3997].Pc != 3997 {
			t.Fatalf("%d by -3997: %v", c, e)
		}
		checkReference(t, back)
		there[2]++
		checkFault(t, there, placeError)
		back[3999]--
		checkFault(t, back, placeError)
	}
}

// TestLongestCode: 4000 bytes are taken, whatever they end with.
func TestLongestCode(t *testing.T) {
	for _, end := range [][]byte{{0}, {16, 128}, {17, 127, 255}, {132, 255, 128}, {167, 0, 0}} {
		b := slices.Concat(make([]byte, 4000-len(end)), end)
		l, e := code.Decode(b)
		if e != api.OK || len(l) != 4001-len(end) || l[len(l)-1].Pc != 4000-len(end) {
			t.Fatalf("4000 bytes that end with % x: %d instructions, %v", end, len(l), e)
		}
		checkReference(t, b)
		checkReference(t, b[1:])
		checkFault(t, append([]byte{0}, b...), longError)
	}
	checkReference(t, bytes.Repeat([]byte{17, 1, 2}, 1333))
	checkFault(t, bytes.Repeat([]byte{17, 1, 2}, 1334), longError)
}

// TestDecodeReadsAndAnswersApart: the code stays as it was, with the room behind it, and no answer shares memory with it or with another one.
func TestDecodeReadsAndAnswersApart(t *testing.T) {
	whole := []byte{16, 255, 167, 0, 3, 132, 1, 128, 177, 9, 9, 9}
	kept := slices.Clone(whole)
	b := whole[:9]
	first, e := code.Decode(b)
	if e != api.OK || !bytes.Equal(whole, kept) {
		t.Fatalf("% x, %v", whole, e)
	}
	want := slices.Clone(first)
	second, _ := code.Decode(b)
	clear(second[:cap(second)])
	if !slices.Equal(first, want) {
		t.Error("two answers share their instructions")
	}
	clear(whole)
	if !slices.Equal(first, want) {
		t.Error("an answer keeps the code")
	}
	clear(first[:cap(first)])
	copy(whole, kept)
	if again, _ := code.Decode(b); !slices.Equal(again, want) {
		t.Error("an answer is kept")
	}
}

// TestEncodeReadsAndAnswersApart is the same of Encode.
func TestEncodeReadsAndAnswersApart(t *testing.T) {
	whole := []api.Op{{Code: 16, A: -1}, {Pc: 2, Code: 167, A: 5}, {Pc: 5, Code: 132, A: 1, B: -128}, {Pc: 8, Code: 177}, {Pc: 9, Code: 9}, {Pc: 9, Code: 9}}
	kept := slices.Clone(whole)
	l := whole[:4]
	first, e := code.Encode(l)
	if e != api.OK || !slices.Equal(whole, kept) {
		t.Fatalf("%+v, %v", whole, e)
	}
	want := slices.Clone(first)
	second, _ := code.Encode(l)
	clear(second[:cap(second)])
	if !slices.Equal(first, want) {
		t.Error("two answers share their bytes")
	}
	clear(whole)
	if !slices.Equal(first, want) {
		t.Error("an answer keeps the instructions")
	}
	clear(first[:cap(first)])
	copy(whole, kept)
	if again, _ := code.Encode(l); !slices.Equal(again, want) {
		t.Error("an answer is kept")
	}
}
