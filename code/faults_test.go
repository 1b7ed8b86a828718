package code_test

import (
	"bytes"
	"slices"
	"testing"

	"reglet/api"
)

func TestNoByte(t *testing.T) {
	checkFault(t, nil, codeError)
	checkFault(t, []byte{}, codeError)
	// What lies behind the length is no code.
	checkFault(t, []byte{177, 177}[:0], codeError)
}

func TestTooLong(t *testing.T) {
	for _, n := range []int{4001, 4002, 8000, 65536, 1 << 20} {
		checkFault(t, make([]byte, n), longError)
		// Whatever else is wrong with it.
		checkFault(t, bytes.Repeat([]byte{98}, n), longError)
		checkFault(t, bytes.Repeat([]byte{167, 0, 1}, n/3+1), longError)
	}
}

func TestCodesThatAreNone(t *testing.T) {
	none := noCodes()
	if len(none) != 256-97 {
		t.Fatalf("%d bytes are no codes", len(none))
	}
	for _, c := range none {
		for _, b := range [][]byte{
			{c}, {c, 0}, {c, 0, 0}, {c, 0, 0, 177},
			{0, c, 177}, {16, 5, c, 177}, {167, 0, 3, c, 0, 177}, {132, 1, 1, c, c},
			{0, c}, {21, 0, c}, {17, 0, 0, c}, {177, c},
		} {
			checkFault(t, b, codeError)
		}
		// Where a number stands it is one.
		checkDecode(t, []byte{21, c, 177}, []api.Op{{Code: 21, A: int(c)}, {Pc: 2, Code: 177}}, api.OK)
		checkDecode(t, []byte{19, c, c, 177}, []api.Op{{Code: 19, A: int(c) * 257}, {Pc: 3, Code: 177}}, api.OK)
		long := make([]byte, 4000)
		long[3999] = c
		checkFault(t, long, codeError)
	}
}

func TestCutOff(t *testing.T) {
	for _, c := range codes() {
		// Its bytes are all there; those that are cut off lie in the room behind.
		whole := append([]byte{byte(c)}, make([]byte, wantSize(c)-1)...)
		for _, ahead := range [][]byte{nil, {0}, {16, 1}, {167, 0, 3}, make([]byte, 3998)} {
			b := slices.Concat(ahead, whole)
			checkReference(t, b)
			for n := len(ahead) + 1; n < len(b); n++ {
				checkFault(t, b[:n], codeError)
			}
		}
	}
}

func TestPlacesThatAreNone(t *testing.T) {
	for _, c := range leading() {
		for _, b := range [][]byte{
			// Into its own middle, from the front and behind others.
			{c, 0, 1}, {c, 0, 2}, {c, 0, 1, 177}, {c, 0, 2, 177}, {0, c, 0, 1, 177}, {0, c, 0, 2, 177},
			// Into the middle of another one, forward and back.
			{c, 0, 4, 16, 0, 177}, {c, 0, 4, 17, 0, 0, 177}, {c, 0, 5, 17, 0, 0, 177}, {c, 0, 5, 132, 0, 0}, {c, 0, 4, 167, 0, 0}, {c, 0, 5, 167, 0, 0},
			{16, 0, c, 0xff, 0xff}, {17, 0, 0, c, 0xff, 0xff}, {17, 0, 0, c, 0xff, 0xfe},
			// There a code could stand, were it not a number.
			{c, 0, 4, 21, 177}, {21, 177, c, 0xff, 0xff},
			// To the code's end and past it.
			{c, 0, 3}, {c, 0, 4, 177}, {c, 0, 5, 177}, {0, c, 0, 3}, {c, 0x7f, 0xff, 177}, {c, 0x0f, 0xa0, 177}, {c, 1, 3, 177}, {c, 1, 0, 177},
			// Ahead of its beginning.
			{c, 0xff, 0xff}, {c, 0xff, 0xfd, 177}, {0, c, 0xff, 0xfe}, {0, 0, c, 0xff, 0xfd}, {c, 0x80, 0, 177}, {0, c, 0x80, 0}, {0, c, 0xfe, 0xff},
			// The second way alone is wrong.
			{c, 0, 3, c, 0, 3}, {c, 0, 0, c, 0xff, 0xfe}, {167, 0, 3, c, 0, 1, 177},
		} {
			checkFault(t, b, placeError)
		}
		// The end of the longest code, reached and passed.
		for way := 3998; way <= 4003; way++ {
			b := slices.Concat(make([]byte, 3), []byte{c, byte(way >> 8), byte(way)}, make([]byte, 3994))
			checkReference(t, b)
			if 3+way >= 4000 {
				checkFault(t, b, placeError)
			}
		}
	}
}

// TestNumbersAreNoPlaces: only the sixth row's instructions lead.
func TestNumbersAreNoPlaces(t *testing.T) {
	for _, c := range codes() {
		if rows[c].a.bytes != 2 || rows[c].way {
			continue
		}
		for _, b := range [][]byte{{byte(c), 0, 1}, {byte(c), 0, 3}, {byte(c), 0x80, 0}, {byte(c), 0xff, 0xff}} {
			l, _ := wantDecode(b)
			checkDecode(t, b, l, api.OK)
		}
	}
}

// TestFirstOfSeveralFaults: code that is none is told ahead of ways that lead nowhere, wherever it stands.
func TestFirstOfSeveralFaults(t *testing.T) {
	for _, c := range leading() {
		for _, b := range [][]byte{
			{c, 0, 1, 98}, {c, 0, 9, 98}, {c, 0xff, 0xff, 255}, {98, c, 0, 1}, {c, 0, 3, 98},
			{c, 0, 1, 16}, {c, 0, 9, 17, 0}, {c, 0, 1, c}, {c, 0, 1, c, 0}, {c, 0x80, 0, 0, 0, 132, 0},
		} {
			checkFault(t, b, codeError)
		}
		// The way's last byte is missing: where it leads is not to be known.
		checkFault(t, []byte{0, c, 0xff}, codeError)
	}
}
