package pool_test

import (
	"encoding/binary"
	"math/rand"
	"slices"
	"strings"
	"testing"

	"reglet/api"
	"reglet/desc"
	"reglet/pool"
)

// The reference cuts a pool into its constants' bytes, lists all that is wrong in each, and takes the first fault by the chapter's order: so it shares no way of going through a pool with the package.

// lengths is how many bytes a constant of each kind has, but that of a text.
var lengths = map[byte]int{3: 5, 5: 9, 7: 3, 8: 3, 9: 7, 10: 7, 11: 7}

// cut is the constants' bytes, and what is behind them.
func cut(b []byte) ([][]byte, []byte, api.Errno) {
	if len(b) < 2 {
		return nil, nil, endError
	}
	n := int(binary.BigEndian.Uint16(b))
	if n == 0 || n > 1000 {
		return nil, nil, constError
	}
	consts := [][]byte{nil}
	for b = b[2:]; len(consts) < n; {
		if len(b) == 0 {
			return nil, nil, endError
		}
		length, ok := lengths[b[0]]
		if b[0] == 1 {
			length, ok = 3, true
			if len(b) >= 3 {
				length += int(binary.BigEndian.Uint16(b[1:]))
			}
		}
		if !ok {
			return nil, nil, constError
		}
		if len(b) < length {
			return nil, nil, endError
		}
		consts = append(consts, b[:length])
		b = b[length:]
	}
	return consts, b, api.OK
}

// found is the bytes of the constant that number which of c names, if it is of that kind.
func found(consts [][]byte, c []byte, which int, kind byte) ([]byte, bool) {
	if c == nil {
		return nil, false
	}
	i := int(binary.BigEndian.Uint16(c[1+2*which:]))
	if i == 0 || i >= len(consts) || consts[i][0] != kind {
		return nil, false
	}
	return consts[i], true
}

// foundText is the same of a text.
func foundText(consts [][]byte, c []byte, which int) (string, bool) {
	b, ok := found(consts, c, which, 1)
	if !ok {
		return "", false
	}
	return string(b[3:]), true
}

// judged is a constant as it must be answered, and each fault of it, the first by the chapter's order in front.
func judged(consts [][]byte, c []byte) (api.Const, []api.Errno) {
	switch c[0] {
	case 1:
		return api.Const{Kind: 1, Text: string(c[3:])}, nil
	case 3:
		return api.Const{Kind: 3, Num: int64(int32(binary.BigEndian.Uint32(c[1:])))}, nil
	case 5:
		return api.Const{Kind: 5, Num: int64(binary.BigEndian.Uint64(c[1:]))}, nil
	case 7, 8:
		s, ok := foundText(consts, c, 0)
		var faults []api.Errno
		if !ok {
			faults = append(faults, constError)
		}
		if c[0] == 7 && !desc.Name(s, false) && !(strings.HasPrefix(s, "[") && desc.Type(s)) {
			faults = append(faults, nameError)
		}
		return api.Const{Kind: int(c[0]), Text: s}, faults
	}
	return judgedMember(consts, c)
}

// judgedMember is judged, of a field or a method.
func judgedMember(consts [][]byte, c []byte) (api.Const, []api.Errno) {
	class, hasClass := found(consts, c, 0, 7)
	className, hasClassName := foundText(consts, class, 0)
	name, hasName := foundText(consts, c, 1)
	descriptor, hasDescriptor := foundText(consts, c, 2)
	var faults []api.Errno
	for _, ok := range []bool{hasClass, hasClassName, hasName, hasDescriptor} {
		if !ok {
			faults = append(faults, constError)
		}
	}
	for _, ok := range []bool{desc.Name(className, false), desc.Name(name, c[0] != 9)} {
		if !ok {
			faults = append(faults, nameError)
		}
	}
	_, _, e := desc.Method(descriptor)
	if c[0] == 9 && !desc.Type(descriptor) || c[0] != 9 && e != api.OK {
		faults = append(faults, descError)
	}
	return api.Const{Kind: int(c[0]), Text: className, Name: name, Desc: descriptor}, faults
}

// wantRead is the reference's word for a pool: its constants, how many bytes are behind, and the error.
func wantRead(b []byte) ([]api.Const, int, api.Errno) {
	consts, behind, e := cut(b)
	if e != api.OK {
		return nil, 0, e
	}
	want := []api.Const{{}}
	var faults []api.Errno
	for _, c := range consts[1:] {
		one, wrong := judged(consts, c)
		want = append(want, one)
		faults = append(faults, wrong...)
	}
	if len(faults) > 0 {
		return nil, 0, faults[0]
	}
	return want, len(behind), api.OK
}

// checkReference holds Read against the reference, and what is taken against what is told anew.
func checkReference(t *testing.T, b []byte) api.Errno {
	t.Helper()
	want, behind, wantError := wantRead(b)
	r := pool.From(b)
	got, e := pool.Read(r)
	if e != wantError || !slices.Equal(got, want) {
		t.Fatalf("Read(% x) = %+v, %v, want %+v, %v", b, got, e, want, wantError)
	}
	switch e {
	case api.OK:
		checkLeft(t, r, behind, true)
		checkRead(t, pool.From(told(t, got)), got, api.OK)
	case endError:
		checkLeft(t, r, 0, false)
	}
	return e
}

// told is the pool of these constants, each naming the first that will do.
func told(t *testing.T, consts []api.Const) []byte {
	t.Helper()
	first := func(c api.Const) int {
		i := slices.Index(consts, c)
		if i < 1 {
			t.Fatalf("%+v is named, but isn't there", c)
		}
		return i
	}
	textAt := func(s string) int { return first(api.Const{Kind: 1, Text: s}) }
	var parts [][]byte
	for _, c := range consts[1:] {
		switch c.Kind {
		case 1:
			parts = append(parts, text(c.Text))
		case 3:
			parts = append(parts, number(int32(c.Num)))
		case 5:
			parts = append(parts, long(c.Num))
		case 7, 8:
			parts = append(parts, names(byte(c.Kind), textAt(c.Text)))
		default:
			parts = append(parts, names(byte(c.Kind), first(api.Const{Kind: 7, Text: c.Text}), textAt(c.Name), textAt(c.Desc)))
		}
	}
	return poolOf(parts...)
}

// pick is one of a list.
func pick(r *rand.Rand, list ...string) string { return list[r.Intn(len(list))] }

// randomConsts are the constants of some pool with nothing wrong, in any order, texts and classes that are named among them.
func randomConsts(r *rand.Rand, members int) []api.Const {
	var list []api.Const
	addText := func(s string) string {
		list = append(list, api.Const{Kind: 1, Text: s})
		return s
	}
	addClass := func(s string) string {
		list = append(list, api.Const{Kind: 7, Text: addText(s)})
		return s
	}
	for range members {
		class := addClass(pick(r, "a", "b/c", "Object", "I", "$"))
		switch r.Intn(7) {
		case 0:
			list = append(list, api.Const{Kind: 3, Num: int64(int32(r.Uint32()))})
		case 1:
			list = append(list, api.Const{Kind: 5, Num: int64(r.Uint64())})
		case 2:
			list = append(list, api.Const{Kind: 8, Text: addText(pick(r, "", "-", "\xff\x00", "a text"))})
		case 3:
			addClass(pick(r, "[I", "[[La;", "[[[[[[[[J", "c"))
		case 4:
			list = append(list, api.Const{Kind: 9, Text: class, Name: addText(pick(r, "f", "g9", "I")), Desc: addText(pick(r, "I", "J", "[La;", "La;"))})
		default:
			list = append(list, api.Const{Kind: 10 + r.Intn(2), Text: class, Name: addText(pick(r, "m", "<init>", "f")), Desc: addText(pick(r, "()V", "(I[J)La;", "(JJ)I"))})
		}
	}
	r.Shuffle(len(list), func(i, j int) { list[i], list[j] = list[j], list[i] })
	return append([]api.Const{{}}, list...)
}

func TestThereAndBack(t *testing.T) {
	r := rand.New(rand.NewSource(2))
	for range 2000 {
		consts := randomConsts(r, r.Intn(20))
		b := told(t, consts)
		checkRead(t, pool.From(b), consts, api.OK)
		checkReference(t, append(b, "behind"...))
	}
	// Up to the limit.
	var consts []api.Const
	for len(consts) >= 1000 || len(consts) < 900 {
		consts = randomConsts(r, 150+r.Intn(200))
	}
	for len(consts) < 1000 {
		consts = append(consts, api.Const{Kind: 3, Num: int64(-len(consts))})
	}
	checkRead(t, pool.From(told(t, consts)), consts, api.OK)
	checkReference(t, told(t, consts))
}

// changed is b with one byte put in, taken out or changed a little, or with its end cut off.
func changed(r *rand.Rand, b []byte) []byte {
	at := r.Intn(len(b))
	const some = "\x00\x01\x02\x03\x05\x07\x08\x09\x0a\x0b\x0c-[I<a"
	c := some[r.Intn(len(some))]
	switch r.Intn(8) {
	case 0:
		return slices.Insert(slices.Clone(b), at, c)
	case 1:
		return slices.Delete(slices.Clone(b), at, at+1)
	case 2:
		return slices.Clone(b[:at])
	}
	changed := slices.Clone(b)
	changed[at] = c
	if r.Intn(2) == 0 {
		changed[at] = b[at] + byte(1+r.Intn(3)) - 2
	}
	return changed
}

func TestReferenceAtChangedPools(t *testing.T) {
	r := rand.New(rand.NewSource(3))
	seen := map[api.Errno]int{}
	for range 60000 {
		b := told(t, randomConsts(r, 1+r.Intn(4)))
		for range 1 + r.Intn(3) {
			if b = changed(r, b); len(b) == 0 {
				break
			}
		}
		seen[checkReference(t, b)]++
	}
	for _, e := range []api.Errno{api.OK, endError, constError, nameError, descError} {
		if seen[e] < 100 {
			t.Errorf("only %d changed pools answer %v", seen[e], e)
		}
	}
}

// TestReferenceAtShortPools asks at all texts of up to six of some bytes, and at all pools of two constants in nine bytes of fewer.
func TestReferenceAtShortPools(t *testing.T) {
	var grow func(b []byte, most int, some string)
	grow = func(b []byte, most int, some string) {
		checkReference(t, b)
		if len(b) == most {
			return
		}
		for i := range len(some) {
			grow(append(b, some[i]), most, some)
		}
	}
	grow(nil, 6, "\x00\x01\x02\x03\x07\x08\x0b")
	grow([]byte{0, 3}, 9, "\x00\x01\x02\x07\x08")
}

func TestReferenceAtAnyBytes(t *testing.T) {
	r := rand.New(rand.NewSource(4))
	for range 20000 {
		b := make([]byte, r.Intn(30))
		r.Read(b)
		checkReference(t, b)
		if len(b) > 2 {
			b[0], b[1] = 0, byte(r.Intn(6))
			checkReference(t, b)
			b[2] = "\x01\x03\x05\x07\x08\x09\x0a\x0b"[r.Intn(8)]
			checkReference(t, b)
		}
	}
}

// TestReferenceAtAllNames asks at every way in which four constants can name each other.
func TestReferenceAtAllNames(t *testing.T) {
	texts := [][]byte{text("a"), text("I"), text("()V"), text("-"), text("[I")}
	for _, kind := range []byte{9, 10, 11} {
		for _, x := range texts {
			for _, y := range texts {
				for n := range 6 * 6 * 6 * 6 {
					b := poolOf(names(kind, n%6, n/6%6, n/36%6), names(7, n/216), x, y)
					checkReference(t, b)
				}
			}
		}
	}
}
