package code_test

import (
	"encoding/binary"
	"math/rand"
	"slices"
	"strconv"
	"strings"
	"testing"

	"reglet/api"
	"reglet/code"
)

// The reference reads the chapter's table as it is printed, with the range of each number. Encode it tells without ever taking code apart, so that it shares no way of judging with the package.

// The errors by their numbers: api's names could be changed with the program.
const (
	argError   = api.Errno(1)
	longError  = api.Errno(2)
	codeError  = api.Errno(40)
	placeError = api.Errno(41)
)

// A number of an instruction is told by so many bytes; of none it is 0.
type number struct{ bytes, low, high int }

type row struct {
	a, b number
	way  bool
}

// chapterTable are the chapter's rows, the codes in its words.
var chapterTable = []struct {
	codes string
	row
}{
	{"0 to 10, 46, 47, 50, 79, 80, 83, 87, 89, 90, 95; 96, 97, 100, 101, 104, 105, 108, 109, 112, 113, 116, 117; 120 to 131; 133, 136; 145 to 148; 172, 173, 176, 177, 190, 191", row{}},
	{"21, 22, 25, 54, 55, 58, 188", row{a: number{1, 0, 255}}},
	{"16", row{a: number{1, -128, 127}}},
	{"17", row{a: number{2, -32768, 32767}}},
	{"19, 178 to 185, 187, 189, 192, 193", row{a: number{2, 0, 65535}}},
	{"153 to 167, 198, 199", row{a: number{2, -32768, 32767}, way: true}},
	{"132", row{a: number{1, 0, 255}, b: number{1, -128, 127}}},
}

// rows are the rows by their codes.
var rows = readRows()

func readRows() map[int]row {
	rows := map[int]row{}
	for _, line := range chapterTable {
		for _, part := range strings.FieldsFunc(line.codes, func(r rune) bool { return r == ',' || r == ';' }) {
			from, to, ok := strings.Cut(strings.TrimSpace(part), " to ")
			if !ok {
				to = from
			}
			for c := atoi(from); c <= atoi(to); c++ {
				rows[c] = line.row
			}
		}
	}
	return rows
}

func atoi(s string) int {
	n, err := strconv.Atoi(s)
	if err != nil {
		panic(err)
	}
	return n
}

// codes are all codes that there are, in order.
func codes() []int {
	var l []int
	for c := range rows {
		l = append(l, c)
	}
	slices.Sort(l)
	return l
}

// noCodes are the bytes that are no codes.
func noCodes() []byte {
	var l []byte
	for c := range 256 {
		if _, ok := rows[c]; !ok {
			l = append(l, byte(c))
		}
	}
	return l
}

func wantSize(c int) int {
	r, ok := rows[c]
	if !ok {
		return 0
	}
	return 1 + r.a.bytes + r.b.bytes
}

// from is the number with which bytes begin.
func (n number) from(b []byte) int {
	var eight [8]byte
	copy(eight[8-n.bytes:], b)
	x := int(binary.BigEndian.Uint64(eight[:]))
	if x > n.high {
		x -= 1 << (8 * n.bytes)
	}
	return x
}

// told is the bytes of a number; false: it is out of its range.
func (n number) told(x int) ([]byte, bool) {
	if x < n.low || x > n.high {
		return nil, false
	}
	return binary.BigEndian.AppendUint64(nil, uint64(x))[8-n.bytes:], true
}

// wantDecode is the reference's word for code: its instructions, or the first fault by the chapter's order.
func wantDecode(b []byte) ([]api.Op, api.Errno) {
	if len(b) == 0 {
		return nil, codeError
	}
	if len(b) > 4000 {
		return nil, longError
	}
	var ops []api.Op
	places := map[int]bool{}
	for rest := b; len(rest) > 0; {
		c, at := int(rest[0]), len(b)-len(rest)
		size := wantSize(c)
		if size == 0 || len(rest) < size {
			return nil, codeError
		}
		r := rows[c]
		op := api.Op{Pc: at, Code: c, A: r.a.from(rest[1 : 1+r.a.bytes]), B: r.b.from(rest[1+r.a.bytes : size])}
		if r.way {
			op.A += at
		}
		ops = append(ops, op)
		places[at] = true
		rest = rest[size:]
	}
	for _, op := range ops {
		if rows[op.Code].way && !places[op.A] {
			return nil, placeError
		}
	}
	return ops, api.OK
}

// wantEncode is the reference's word for instructions: their bytes; none: they are no code.
func wantEncode(l []api.Op) []byte {
	places := map[int]bool{}
	for _, op := range l {
		places[op.Pc] = true
	}
	var b []byte
	for _, op := range l {
		r, ok := rows[op.Code]
		if !ok || op.Pc != len(b) || r.way && !places[op.A] {
			return nil
		}
		x := op.A
		// A place that is one of theirs may still be far off, if theirs are wrong.
		if r.way && (x < -1<<40 || x > 1<<40) {
			return nil
		}
		if r.way {
			x -= op.Pc
		}
		first, fits := r.a.told(x)
		second, fitsToo := r.b.told(op.B)
		if !fits || !fitsToo {
			return nil
		}
		b = slices.Concat(b, []byte{byte(op.Code)}, first, second)
		if len(b) > 4000 {
			return nil
		}
	}
	return b
}

// checkDecode holds Decode against what is wanted, and Encode of what it answers against the bytes.
func checkDecode(t *testing.T, b []byte, want []api.Op, wantError api.Errno) {
	t.Helper()
	got, e := code.Decode(b)
	if e != wantError || !slices.Equal(got, want) {
		t.Fatalf("Decode(% x) = %+v, %v, want %+v, %v", b, got, e, want, wantError)
	}
	if e != api.OK {
		return
	}
	if again, e := code.Encode(got); e != api.OK || !slices.Equal(again, b) {
		t.Fatalf("Encode(%+v) = % x, %v, want % x", got, again, e, b)
	}
}

// checkFault: Decode answers just that error.
func checkFault(t *testing.T, b []byte, want api.Errno) {
	t.Helper()
	checkDecode(t, b, nil, want)
}

// checkEncode holds Encode against what is wanted (none: ErrArg), and Decode of what it answers against the instructions.
func checkEncode(t *testing.T, l []api.Op, want []byte) {
	t.Helper()
	wantError := api.OK
	if want == nil {
		wantError = argError
	}
	got, e := code.Encode(l)
	if e != wantError || !slices.Equal(got, want) {
		t.Fatalf("Encode(%+v) = % x, %v, want % x, %v", l, got, e, want, wantError)
	}
	if e != api.OK {
		return
	}
	if again, e := code.Decode(got); e != api.OK || !slices.Equal(again, l) {
		t.Fatalf("Decode(% x) = %+v, %v, want %+v", got, again, e, l)
	}
}

// checkRefused: no bytes are taken apart to these instructions.
func checkRefused(t *testing.T, l []api.Op) {
	t.Helper()
	checkEncode(t, l, nil)
}

// checkReference holds Decode against the reference.
func checkReference(t *testing.T, b []byte) api.Errno {
	t.Helper()
	want, wantError := wantDecode(b)
	checkDecode(t, b, want, wantError)
	if wantError == api.OK {
		checkEncode(t, want, wantEncode(want))
	}
	return wantError
}

// pick is one of a list.
func pick[T any](r *rand.Rand, list ...T) T { return list[r.Intn(len(list))] }

// randomOps are instructions that follow each other, the numbers of each at any place of its range or at its ends, ways to places of theirs.
func randomOps(r *rand.Rand, n int) []api.Op {
	all := codes()
	var l []api.Op
	at := 0
	for range n {
		// A row, then one of its codes: most codes are of the first row.
		same := rows[pick(r, all...)]
		if r.Intn(2) == 0 {
			same = pick(r, chapterTable...).row
		}
		op := api.Op{Pc: at, Code: pick(r, all...)}
		for rows[op.Code] != same {
			op.Code = pick(r, all...)
		}
		op.A = pick(r, same.a.low, same.a.high, same.a.low+r.Intn(same.a.high-same.a.low+1))
		op.B = pick(r, same.b.low, same.b.high, same.b.low+r.Intn(same.b.high-same.b.low+1))
		l = append(l, op)
		at += wantSize(op.Code)
	}
	for i, op := range l {
		if rows[op.Code].way {
			l[i].A = pick(r, l...).Pc
		}
	}
	return l
}

func TestThereAndBack(t *testing.T) {
	r := rand.New(rand.NewSource(1))
	for range 3000 {
		l := randomOps(r, 1+r.Intn(30))
		b := wantEncode(l)
		if b == nil {
			t.Fatalf("no bytes for %+v", l)
		}
		checkEncode(t, l, b)
		checkDecode(t, b, l, api.OK)
	}
	// About the limit, some below and some above.
	seen := map[bool]int{}
	for range 200 {
		l := randomOps(r, 1500+r.Intn(1000))
		b := wantEncode(l)
		checkEncode(t, l, b)
		seen[b == nil]++
	}
	if seen[true] < 20 || seen[false] < 20 {
		t.Errorf("of 200 long lists %d are taken", seen[false])
	}
}

// changedBytes is b with a byte put in, taken out or changed, or with its end cut off.
func changedBytes(r *rand.Rand, b []byte) []byte {
	at := r.Intn(len(b))
	switch r.Intn(6) {
	case 0:
		return slices.Insert(slices.Clone(b), at, byte(r.Intn(256)))
	case 1:
		return slices.Delete(slices.Clone(b), at, at+1)
	case 2:
		return slices.Clone(b[:at])
	}
	b = slices.Clone(b)
	b[at] = pick(r, byte(r.Intn(256)), b[at]+1, b[at]-1, b[at]^1<<r.Intn(8))
	return b
}

func TestReferenceAtChangedCode(t *testing.T) {
	r := rand.New(rand.NewSource(2))
	seen := map[api.Errno]int{}
	for range 60000 {
		b := wantEncode(randomOps(r, 1+r.Intn(8)))
		for range 1 + r.Intn(2) {
			if len(b) > 0 {
				b = changedBytes(r, b)
			}
		}
		seen[checkReference(t, b)]++
	}
	for _, e := range []api.Errno{api.OK, codeError, placeError} {
		if seen[e] < 1000 {
			t.Errorf("only %d changed codes answer %v", seen[e], e)
		}
	}
}

// TestReferenceAtShortCode asks at all codes of up to two bytes, and at all of up to five of some.
func TestReferenceAtShortCode(t *testing.T) {
	for x := range 256 {
		checkReference(t, []byte{byte(x)})
		for y := range 256 {
			checkReference(t, []byte{byte(x), byte(y)})
		}
	}
	var grow func(b []byte, most int, some string)
	grow = func(b []byte, most int, some string) {
		checkReference(t, b)
		if len(b) == most {
			return
		}
		for i := range len(some) {
			grow(append(slices.Clone(b), some[i]), most, some)
		}
	}
	grow(nil, 5, "\x00\x01\x02\x03\x10\x11\x62\x84\xa7\xc6\xfe\xff")
	grow(nil, 8, "\x00\x03\xa7\xff")
}

func TestReferenceAtAnyBytes(t *testing.T) {
	r := rand.New(rand.NewSource(3))
	for range 20000 {
		b := make([]byte, r.Intn(12))
		r.Read(b)
		checkReference(t, b)
	}
}

// changedOps is l with one number of an instruction changed, or an instruction doubled, lost or turned about with another one.
func changedOps(r *rand.Rand, l []api.Op) []api.Op {
	l = slices.Clone(l)
	at, other := r.Intn(len(l)), r.Intn(len(l))
	switch r.Intn(8) {
	case 0:
		return slices.Insert(l, at, l[other])
	case 1:
		return slices.Delete(l, at, at+1)
	case 2:
		l[at], l[other] = l[other], l[at]
		return l
	}
	spot := pick(r, &l[at].Pc, &l[at].Code, &l[at].A, &l[at].B)
	*spot = pick(r, others(*spot)...)
	return l
}

func TestReferenceAtChangedLists(t *testing.T) {
	r := rand.New(rand.NewSource(4))
	taken := 0
	const all = 60000
	for range all {
		l := randomOps(r, 1+r.Intn(6))
		for range 1 + r.Intn(2) {
			if len(l) > 0 {
				l = changedOps(r, l)
			}
		}
		want := wantEncode(l)
		checkEncode(t, l, want)
		if want != nil {
			taken++
		}
	}
	if taken < all/20 || taken > all/2 {
		t.Errorf("of %d changed lists %d are taken", all, taken)
	}
}

// FuzzDecode looks for code that is taken apart otherwise than by the reference.
func FuzzDecode(f *testing.F) {
	f.Add([]byte("\x10\xff\xb1"))
	f.Add([]byte("\x00\xa7\x00\x03\x84\x01\x80\xc6\xff\xfc\xb1"))
	f.Fuzz(func(t *testing.T, b []byte) { checkReference(t, b) })
}
