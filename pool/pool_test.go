package pool_test

import (
	"encoding/binary"
	"math"
	"slices"
	"strings"
	"testing"

	"reglet/api"
	"reglet/desc"
	"reglet/pool"
)

const (
	endError   = api.ErrEnd
	constError = api.ErrConst
	nameError  = api.ErrName
	descError  = api.ErrDesc
)

// two is a number of two bytes.
func two(n int) []byte { return binary.BigEndian.AppendUint16(nil, uint16(n)) }

// text, number, long, names: a constant's bytes, told by its parts.
func text(s string) []byte { return slices.Concat([]byte{1}, two(len(s)), []byte(s)) }

func number(n int32) []byte { return binary.BigEndian.AppendUint32([]byte{3}, uint32(n)) }

func long(n int64) []byte { return binary.BigEndian.AppendUint64([]byte{5}, uint64(n)) }

func names(kind byte, others ...int) []byte {
	b := []byte{kind}
	for _, n := range others {
		b = append(b, two(n)...)
	}
	return b
}

// poolOf is a pool of these constants.
func poolOf(consts ...[]byte) []byte {
	return append(two(len(consts)+1), slices.Concat(consts...)...)
}

// checkRead holds Read against what is wanted; where an error is, there must be no list.
func checkRead(t *testing.T, r *pool.Reader, want []api.Const, wantError api.Errno) {
	t.Helper()
	got, e := pool.Read(r)
	if e != wantError || !slices.Equal(got, want) {
		t.Fatalf("Read = %+v, %v, want %+v, %v", got, e, want, wantError)
	}
}

// checkPool reads a pool that must be taken, and has these constants behind constant 0.
func checkPool(t *testing.T, b []byte, want ...api.Const) {
	t.Helper()
	r := pool.From(append(slices.Clone(b), 0x63, 0x64))
	checkRead(t, r, append([]api.Const{{}}, want...), api.OK)
	checkTake(t, r, 2, "cd", 0, true)
}

// checkFault reads a pool that must be refused, at its end and with bytes behind.
func checkFault(t *testing.T, b []byte, want api.Errno) {
	t.Helper()
	checkRead(t, pool.From(b), nil, want)
	if want != endError {
		checkRead(t, pool.From(append(slices.Clone(b), make([]byte, 20)...)), nil, want)
	}
}

func TestExamplesOfTheChapter(t *testing.T) {
	checkPool(t, []byte{0, 2, 1, 0, 1, 0x41}, api.Const{Kind: 1, Text: "A"})
	checkFault(t, []byte{0, 2, 7, 0, 1}, constError)
	checkFault(t, []byte{0, 3, 7, 0, 2, 1, 0, 1, 0x2d}, nameError)
	checkFault(t, []byte{0, 2, 1, 0, 5}, endError)
	checkFault(t, []byte{0, 2, 2}, constError)
}

func TestConstantsOfEachKind(t *testing.T) {
	b := poolOf(text("a"), number(-7), long(1<<40), names(7, 1), names(8, 1), names(9, 4, 1, 9), names(10, 4, 10, 11), names(11, 4, 10, 11), text("[J"), text("<init>"), text("(I)V"), names(7, 9))
	checkPool(t, b,
		api.Const{Kind: api.ConstText, Text: "a"},
		api.Const{Kind: api.ConstInt, Num: -7},
		api.Const{Kind: api.ConstLong, Num: 1 << 40},
		api.Const{Kind: api.ConstClass, Text: "a"},
		api.Const{Kind: api.ConstString, Text: "a"},
		api.Const{Kind: api.ConstField, Text: "a", Name: "a", Desc: "[J"},
		api.Const{Kind: api.ConstMethod, Text: "a", Name: "<init>", Desc: "(I)V"},
		api.Const{Kind: api.ConstIface, Text: "a", Name: "<init>", Desc: "(I)V"},
		api.Const{Kind: api.ConstText, Text: "[J"},
		api.Const{Kind: api.ConstText, Text: "<init>"},
		api.Const{Kind: api.ConstText, Text: "(I)V"},
		api.Const{Kind: api.ConstClass, Text: "[J"},
	)
}

func TestNumbersHaveSigns(t *testing.T) {
	for _, n := range []int32{0, 1, -1, 127, 128, 255, 256, -256, 0x01020304, math.MaxInt32, math.MinInt32} {
		checkPool(t, poolOf(number(n)), api.Const{Kind: 3, Num: int64(n)})
	}
	for _, n := range []int64{0, 1, -1, math.MaxInt32 + 1, math.MinInt32 - 1, math.MaxUint32, 0x0102030405060708, math.MaxInt64, math.MinInt64} {
		checkPool(t, poolOf(long(n)), api.Const{Kind: 5, Num: n})
	}
}

func TestTextsAreAnyBytes(t *testing.T) {
	all := make([]byte, 256)
	for i := range all {
		all[i] = byte(i)
	}
	for _, s := range []string{"", "A", "-", "\x00", "\xff", "\u20ac", string(all), strings.Repeat("x", 256), strings.Repeat("x", 65535)} {
		checkPool(t, poolOf(text(s)), api.Const{Kind: 1, Text: s})
		checkPool(t, poolOf(text(s), names(8, 1)), api.Const{Kind: 1, Text: s}, api.Const{Kind: 8, Text: s})
	}
}

// ints is so many constants, each with its number.
func ints(n int) [][]byte {
	list := make([][]byte, n)
	for i := range list {
		list[i] = number(int32(i))
	}
	return list
}

func TestHowManyConstants(t *testing.T) {
	checkPool(t, poolOf())
	for _, n := range []int{1, 2, 255, 256, 998, 999} {
		want := make([]api.Const, n)
		for i := range want {
			want[i] = api.Const{Kind: 3, Num: int64(i)}
		}
		checkPool(t, poolOf(ints(n)...), want...)
	}
	checkFault(t, two(0), constError)
	for _, n := range []int{1000, 1001, 32767, 32768, 65534} {
		checkFault(t, poolOf(ints(n)...), constError)
	}
	// The number alone is enough: no constant is looked at.
	for _, n := range []int{0, 1001, 1002, 65535} {
		checkFault(t, two(n), constError)
		checkFault(t, append(two(n), 2), constError)
	}
	checkFault(t, two(1000), endError)
}

func TestLastOfMostConstants(t *testing.T) {
	list := ints(999)
	list[0], list[998] = names(8, 999), text("far")
	got, e := pool.Read(pool.From(poolOf(list...)))
	if e != api.OK || len(got) != 1000 || got[1] != (api.Const{Kind: 8, Text: "far"}) || got[999] != (api.Const{Kind: 1, Text: "far"}) {
		t.Fatal(len(got), e)
	}
	list[0] = names(8, 1000)
	checkFault(t, poolOf(list...), constError)
}

// allKinds has a constant of each kind, with nothing wrong.
var allKinds = [][]byte{
	text("a"), text("I"), text("()V"), number(1), long(2), names(7, 1), names(8, 1), names(9, 6, 1, 2), names(10, 6, 1, 3), names(11, 6, 1, 3),
}

func TestCutAnywhere(t *testing.T) {
	b := poolOf(allKinds...)
	if _, e := pool.Read(pool.From(b)); e != api.OK {
		t.Fatal(e)
	}
	for n := range b {
		r := pool.From(b[:n])
		checkRead(t, r, nil, endError)
		checkLeft(t, r, 0, false)
	}
	for _, c := range allKinds {
		for n := range c {
			checkFault(t, append(two(2), c[:n]...), endError)
		}
	}
}

func TestReaderThatMissedBytes(t *testing.T) {
	r := pool.From(poolOf(text("a")))
	r.Take(-1)
	checkRead(t, r, nil, endError)
}

func TestPoolInTheMiddle(t *testing.T) {
	b := slices.Concat([]byte("REGL"), poolOf(text("a")), poolOf(number(5)), []byte("!"))
	r := pool.From(b)
	checkTake(t, r, 4, "REGL", len(b)-4, true)
	checkRead(t, r, []api.Const{{}, {Kind: 1, Text: "a"}}, api.OK)
	checkRead(t, r, []api.Const{{}, {Kind: 3, Num: 5}}, api.OK)
	checkTake(t, r, 1, "!", 0, true)
}

func TestKindsThatThereAreNot(t *testing.T) {
	for kind := range 256 {
		if slices.Contains([]int{1, 3, 5, 7, 8, 9, 10, 11}, kind) {
			continue
		}
		// It is told where the kind is read: nothing behind is looked at.
		checkFault(t, []byte{0, 2, byte(kind)}, constError)
		checkFault(t, []byte{0, 9, byte(kind)}, constError)
		checkFault(t, poolOf(text("a"), []byte{byte(kind)}), constError)
		checkFault(t, poolOf(names(7, 9), []byte{byte(kind)}), constError)
		checkFault(t, poolOf(names(7, 3), []byte{byte(kind)}, text("-")), constError)
		// What is cut off ahead of it is met ahead of it.
		checkFault(t, []byte{0, 3, 1, 0, 2, byte(kind)}, endError)
	}
}

// A slot is where a constant of allKinds names another one: the constant's number, which of its numbers, and the kind that is wanted.
type slot struct{ at, which, kind int }

var slots = []slot{
	{6, 0, api.ConstText}, {7, 0, api.ConstText},
	{8, 0, api.ConstClass}, {8, 1, api.ConstText}, {8, 2, api.ConstText},
	{9, 0, api.ConstClass}, {9, 1, api.ConstText}, {9, 2, api.ConstText},
	{10, 0, api.ConstClass}, {10, 1, api.ConstText}, {10, 2, api.ConstText},
}

// renamed is allKinds with another number in one slot.
func renamed(s slot, to int) [][]byte {
	list := slices.Clone(allKinds)
	c := slices.Clone(list[s.at-1])
	copy(c[1+2*s.which:], two(to))
	list[s.at-1] = c
	return list
}

func TestNamedConstantMissingOrOfAnotherKind(t *testing.T) {
	for _, s := range slots {
		for _, to := range []int{0, 11, 12, 255, 256, 1000, 32768, 65535} {
			checkFault(t, poolOf(renamed(s, to)...), constError)
		}
		for to := 1; to <= len(allKinds); to++ {
			if int(allKinds[to-1][0]) != s.kind {
				checkFault(t, poolOf(renamed(s, to)...), constError)
			}
		}
		checkFault(t, poolOf(renamed(s, s.at)...), constError)
	}
}

func TestNamedConstantsAheadAndBehind(t *testing.T) {
	field := api.Const{Kind: 9, Text: "a", Name: "f", Desc: "I"}
	class := api.Const{Kind: 7, Text: "a"}
	a, f, i := api.Const{Kind: 1, Text: "a"}, api.Const{Kind: 1, Text: "f"}, api.Const{Kind: 1, Text: "I"}
	checkPool(t, poolOf(text("a"), text("f"), text("I"), names(7, 1), names(9, 4, 2, 3)), a, f, i, class, field)
	checkPool(t, poolOf(names(9, 2, 4, 5), names(7, 3), text("a"), text("f"), text("I")), field, class, a, f, i)
	checkPool(t, poolOf(names(7, 4), text("f"), names(9, 1, 2, 5), text("a"), text("I")), class, f, field, a, i)
}

func TestOneTextForAll(t *testing.T) {
	checkPool(t, poolOf(text("I"), names(7, 1), names(9, 2, 1, 1)),
		api.Const{Kind: 1, Text: "I"}, api.Const{Kind: 7, Text: "I"}, api.Const{Kind: 9, Text: "I", Name: "I", Desc: "I"})
	// Constants that are the same stay two.
	checkPool(t, poolOf(text("a"), text("a"), names(7, 1), names(7, 2), names(7, 1)),
		api.Const{Kind: 1, Text: "a"}, api.Const{Kind: 1, Text: "a"}, api.Const{Kind: 7, Text: "a"}, api.Const{Kind: 7, Text: "a"}, api.Const{Kind: 7, Text: "a"})
}

// member is a pool of one member, ahead of all that it names.
func member(kind byte, class, name, descriptor string) []byte {
	return poolOf(names(kind, 2, 4, 5), names(7, 3), text(class), text(name), text(descriptor))
}

// checkMember reads such a pool: the member's fault is met first, whatever its class's own would be.
func checkMember(t *testing.T, kind byte, class, name, descriptor string, want api.Errno) {
	t.Helper()
	b := member(kind, class, name, descriptor)
	if want != api.OK {
		checkFault(t, b, want)
		return
	}
	checkPool(t, b,
		api.Const{Kind: int(kind), Text: class, Name: name, Desc: descriptor},
		api.Const{Kind: 7, Text: class},
		api.Const{Kind: 1, Text: class}, api.Const{Kind: 1, Text: name}, api.Const{Kind: 1, Text: descriptor})
}

func TestNamesOfMembers(t *testing.T) {
	descriptors := map[byte]string{9: "I", 10: "()V", 11: "()V"}
	sixty := strings.Repeat("n", 60)
	for kind, d := range descriptors {
		for _, name := range []string{"f", "a/b", "$_9", sixty} {
			checkMember(t, kind, "a", name, d, api.OK)
			checkMember(t, kind, name, "f", d, api.OK)
		}
		for _, name := range []string{"", "-", "f ", "f\x00", "\xff", "\u00e9", "[I", "[La;", "La;", "()V", sixty + "n"} {
			checkMember(t, kind, "a", name, d, nameError)
			checkMember(t, kind, name, "f", d, nameError)
		}
		for _, name := range []string{"<init>", "<", ">", "a<b", "<" + sixty[2:] + ">"} {
			want := api.OK
			if kind == 9 {
				want = nameError
			}
			checkMember(t, kind, "a", name, d, want)
			checkMember(t, kind, name, "f", d, nameError)
		}
	}
}

func TestDescriptorsOfMembers(t *testing.T) {
	types := []string{"I", "J", "La;", "La/b;", "[I", "[[J", "[[[[[[[[La;", "L" + strings.Repeat("a", 60) + ";"}
	methods := []string{"()V", "()I", "(I)J", "(I[JLa;)V", "([[I)[La;", "(" + strings.Repeat("J", 20) + ")V"}
	neither := []string{"", "V", "N", "a", "L;", "[", "[V", "[[[[[[[[[I", "II", "(", "()", "(V)V", "()VV", "()V ", "(" + strings.Repeat("J", 21) + ")V", "\xff"}
	for _, kind := range []byte{10, 11} {
		for _, d := range methods {
			checkMember(t, kind, "a", "f", d, api.OK)
			checkMember(t, 9, "a", "f", d, descError)
		}
		for _, d := range append(types, neither...) {
			checkMember(t, kind, "a", "f", d, descError)
		}
	}
	for _, d := range types {
		checkMember(t, 9, "a", "f", d, api.OK)
	}
	for _, d := range neither {
		checkMember(t, 9, "a", "f", d, descError)
	}
}

// named and notNamed are texts at the edges of what may stand for a class or an array.
var named = []string{
	"a", "a/b", "I", "J", "V", "N", "L", "9", "_", "$", "/", strings.Repeat("a", 60),
	"[I", "[J", "[La;", "[[I", "[[[[[[[[I", "[[[[[[[[La/b;", "[L" + strings.Repeat("a", 60) + ";",
}

var notNamed = []string{
	"", "-", " a", "a ", "a.b", "a\n", "a\x00", "<init>", "<", "\xff", "\u00e9", strings.Repeat("a", 61),
	"La;", "L;", "La/b;", "[", "[[", "[V", "[N", "[a", "[L;", "[La", "[II", "[I ", " [I", "I[", "[]", "[()V", "()V", "(I)V",
	"[[[[[[[[[I", "[[[[[[[[[[I", "[L<init>;", "[L" + strings.Repeat("a", 61) + ";", strings.Repeat("[", 1<<16),
}

func TestNamed(t *testing.T) {
	for _, s := range named {
		if !pool.Named(s) {
			t.Errorf("Named(%q) = false", s)
		}
	}
	for _, s := range notNamed {
		if pool.Named(s) {
			t.Errorf("Named(%q) = true", s)
		}
	}
}

func TestNamedAtShortTexts(t *testing.T) {
	var grow func(s string)
	grow = func(s string) {
		want := desc.Name(s, false) || strings.HasPrefix(s, "[") && desc.Type(s)
		if got := pool.Named(s); got != want {
			t.Fatalf("Named(%q) = %v", s, got)
		}
		if len(s) == 5 {
			return
		}
		for _, c := range "[IJLVa;<-(" {
			grow(s + string(c))
		}
	}
	grow("")
}

func TestTextsOfClasses(t *testing.T) {
	for _, s := range named {
		checkPool(t, poolOf(names(7, 2), text(s)), api.Const{Kind: 7, Text: s}, api.Const{Kind: 1, Text: s})
	}
	for _, s := range notNamed {
		if len(s) < 1<<16 {
			checkFault(t, poolOf(names(7, 2), text(s)), nameError)
		}
	}
}

func TestOrderOfFaultsInOneConstant(t *testing.T) {
	// What isn't there comes ahead of a name, a name ahead of a descriptor, whichever stands in front.
	for _, kind := range []byte{9, 10, 11} {
		checkFault(t, poolOf(names(kind, 2, 3, 9), names(7, 3), text("-"), text("")), constError)
		checkFault(t, poolOf(names(kind, 2, 9, 4), names(7, 3), text("-"), text("")), constError)
		checkFault(t, poolOf(names(kind, 9, 3, 4), names(7, 3), text("-"), text("")), constError)
		checkFault(t, poolOf(names(kind, 2, 3, 4), names(7, 9), text("-"), text("")), constError)
		checkMember(t, kind, "a", "-", "", nameError)
		checkMember(t, kind, "-", "f", "", nameError)
		checkMember(t, kind, "-", "-", "", nameError)
		checkMember(t, kind, "[I", "f", "", nameError)
		checkMember(t, kind, "<init>", "f", "", nameError)
		checkMember(t, kind, "a", "f", "", descError)
	}
}

func TestOrderOfFaultsInSeveralConstants(t *testing.T) {
	a, wrong := text("a"), text("-")
	// The first constant's fault is told, be it the lesser one by its number or not.
	checkFault(t, poolOf(names(7, 3), names(7, 9), wrong), nameError)
	checkFault(t, poolOf(names(7, 9), names(7, 3), wrong), constError)
	checkFault(t, poolOf(names(9, 3, 4, 5), names(7, 5), names(7, 4), a, wrong), descError)
	checkFault(t, poolOf(names(7, 5), names(9, 3, 4, 5), names(7, 4), a, wrong), nameError)
	checkFault(t, poolOf(names(9, 3, 4, 5), names(8, 9), names(7, 4), a, wrong), descError)
	checkFault(t, poolOf(names(8, 9), names(9, 3, 4, 5), names(7, 4), a, wrong), constError)
	// What a member's class names is the member's fault, ahead of all that stands between.
	for _, kind := range []byte{9, 10, 11} {
		checkFault(t, poolOf(names(kind, 3, 4, 5), names(7, 6), names(7, 9), a, text("()V"), wrong), constError)
		checkFault(t, poolOf(names(kind, 3, 4, 5), names(7, 6), names(7, 2), a, text("I"), wrong), constError)
		checkFault(t, poolOf(names(kind, 3, 4, 5), names(8, 9), names(7, 6), a, text("I"), wrong), nameError)
		checkFault(t, poolOf(names(kind, 3, 4, 5), names(8, 9), names(7, 6), a, text("I"), text("[I")), nameError)
	}
	// All are read ahead of the first that is looked up.
	checkFault(t, poolOf(names(7, 9), []byte{1, 0}), endError)
	checkFault(t, poolOf(names(7, 2), wrong, []byte{7}), endError)
	checkFault(t, append(two(4), slices.Concat(names(7, 2), wrong)...), endError)
	checkFault(t, append(two(9), slices.Concat(names(7, 2), wrong, []byte{4})...), constError)
}

func TestReadAnswersNewMemory(t *testing.T) {
	b := poolOf(allKinds...)
	kept := slices.Clone(b)
	first, _ := pool.Read(pool.From(b))
	if !slices.Equal(b, kept) {
		t.Fatal("what was handed in is changed")
	}
	want := slices.Clone(first)
	for i := range b {
		b[i] = 'X'
	}
	if !slices.Equal(first, want) {
		t.Fatal("what was handed in is kept")
	}
	clear(first)
	checkRead(t, pool.From(kept), want, api.OK)
}
