package file_test

import (
	"math/bits"
	"slices"
	"strings"
	"testing"

	"reglet/api"
	"reglet/file"
)

// Parts are a file in pieces, so that one of them can be told otherwise, or all behind it cut off.
type parts [][]byte

// with is the file with another piece.
func (p parts) with(at int, told ...byte) parts {
	p = slices.Clone(p)
	p[at] = told
	return p
}

// upTo is the file up to that piece, with it.
func (p parts) upTo(at int) []byte { return slices.Concat(p[:at+1]...) }

// all is the whole file.
func (p parts) all() []byte { return slices.Concat(p...) }

// checkMet: the fault is met at the last byte of that piece, neither ahead nor behind.
func checkMet(t *testing.T, p parts, at int, want api.Errno) {
	t.Helper()
	b := p.upTo(at)
	checkFault(t, b, want)
	checkFault(t, p.all(), want)
	// What is behind doesn't count.
	checkFault(t, append(slices.Clone(b), 0xff, 0xff, 0xff, 0xff), want)
	checkFault(t, append(slices.Clone(b), 0, 0, 0, 0), want)
	checkFault(t, b[:len(b)-1], api.ErrEnd)
}

// checkNotMet: at that piece nothing is wrong: the end is met behind it.
func checkNotMet(t *testing.T, p parts, at int) {
	t.Helper()
	checkFault(t, p.upTo(at), api.ErrEnd)
}

// The pieces of the ordinary file.
const (
	atMagic = iota
	atPool
	atFlags
	atName
	atSuper
	atIfaces
	atIface
	atFields
	atFieldFlags
	atFieldName
	atFieldDesc
	atMethods
	atAbstractFlags
	atAbstractName
	atAbstractDesc
	atMethodFlags
	atMethodName
	atMethodDesc
	atStack
	atLocals
	atCodeLength
	atCode
	atRows
	atFrom
	atTo
	atAt
	atCaught
	atSecondRow
	atFrames
	atPlace
	atFrameLocals
	atSimpleTypes
	atType
	atTypeClass
	atFrameStack
	atStackType
	atStackClass
	atSecondFrame
	allParts
)

// The constants of the ordinary file.
var ordinaryPool = []api.Const{
	{},
	{Kind: 1, Text: "a"},
	{Kind: 1, Text: "Object"},
	{Kind: 7, Text: "a"},
	{Kind: 7, Text: "Object"},
	{Kind: 1, Text: "f"},
	{Kind: 1, Text: "I"},
	{Kind: 1, Text: "()V"},
	{Kind: 1, Text: "[I"},
	{Kind: 7, Text: "[I"},
	{Kind: 3, Num: 5},
	{Kind: 5, Num: 6},
	{Kind: 8, Text: "a"},
	{Kind: 9, Text: "a", Name: "f", Desc: "I"},
	{Kind: 10, Text: "a", Name: "f", Desc: "()V"},
	{Kind: 11, Text: "a", Name: "f", Desc: "()V"},
	{Kind: 1, Text: "<init>"},
	{Kind: 1, Text: "-"},
}

const ordinaryPoolBytes = "\x00\x12" +
	"\x01\x00\x01a" + "\x01\x00\x06Object" + "\x07\x00\x01" + "\x07\x00\x02" + "\x01\x00\x01f" + "\x01\x00\x01I" + "\x01\x00\x03()V" + "\x01\x00\x02[I" + "\x07\x00\x08" +
	"\x03\x00\x00\x00\x05" + "\x05\x00\x00\x00\x00\x00\x00\x00\x06" + "\x08\x00\x01" +
	"\x09\x00\x03\x00\x05\x00\x06" + "\x0a\x00\x03\x00\x05\x00\x07" + "\x0b\x00\x03\x00\x05\x00\x07" + "\x01\x00\x06<init>" + "\x01\x00\x01-"

// ordinary is a file that has a piece of each kind.
func ordinary() parts {
	p := make(parts, allParts)
	for at, told := range map[int]string{
		atMagic: "REGL", atPool: ordinaryPoolBytes, atFlags: "\x04\x00", atName: "\x00\x03", atSuper: "\x00\x04",
		atIfaces: "\x00\x01", atIface: "\x00\x04",
		atFields: "\x00\x01", atFieldFlags: "\x00\x08", atFieldName: "\x00\x05", atFieldDesc: "\x00\x06",
		atMethods: "\x00\x02", atAbstractFlags: "\x04\x00", atAbstractName: "\x00\x05", atAbstractDesc: "\x00\x07",
		atMethodFlags: "\x00\x08", atMethodName: "\x00\x10", atMethodDesc: "\x00\x07",
		atStack: "\x00\x14", atLocals: "\x00\x28", atCodeLength: "\x00\x03", atCode: "\x01\x02\xb1",
		atRows: "\x00\x02", atFrom: "\x00\x01", atTo: "\x00\x02", atAt: "\x01\x00", atCaught: "\x00\x03", atSecondRow: "\x00\x00\x00\x03\x00\x02\x00\x00",
		atFrames: "\x00\x02", atPlace: "\x00\x02", atFrameLocals: "\x05", atSimpleTypes: "\x00\x01\x02\x03", atType: "\x04", atTypeClass: "\x00\x03",
		atFrameStack: "\x01", atStackType: "\x04", atStackClass: "\x00\x09", atSecondFrame: "\x12\x34\x00\x00",
	} {
		p[at] = []byte(told)
	}
	return p
}

// ordinaryClass is what it must be answered as.
func ordinaryClass() api.Class {
	return api.Class{
		Flags: 0x400, Name: "a", Super: "Object", Ifaces: []string{"Object"}, Pool: slices.Clone(ordinaryPool),
		Fields: []api.Field{{Flags: 8, Name: "f", Desc: "I"}},
		Methods: []api.Method{
			{Flags: 0x400, Name: "f", Desc: "()V"},
			{
				Flags: 8, Name: "<init>", Desc: "()V", Stack: 20, Locals: 40, Code: []byte{1, 2, 0xb1},
				Rows: []api.Row{{From: 1, To: 2, At: 256, Class: "a"}, {From: 0, To: 3, At: 2}},
				Frames: []api.Frame{
					{Pc: 2, Locals: []string{"", "I", "J", "N", "La;"}, Stack: []string{"[I"}},
					{Pc: 0x1234},
				},
			},
		},
	}
}

func TestOrdinaryParts(t *testing.T) {
	checkParse(t, ordinary().all(), ordinaryClass(), api.OK)
}

func TestCutAnywhere(t *testing.T) {
	b := ordinary().all()
	for n := range b {
		want := api.ErrEnd
		if n < 4 {
			want = api.ErrMagic
		}
		checkFault(t, b[:n], want)
		// The room behind a list is not read.
		checkFault(t, b[:n:n], want)
	}
	checkFault(t, nil, api.ErrMagic)
}

func TestBytesBehind(t *testing.T) {
	b := ordinary().all()
	for c := range 256 {
		checkFault(t, append(slices.Clone(b), byte(c)), api.ErrEnd)
	}
	for _, n := range []int{2, 3, 4, 100, 65536 - len(b)} {
		checkFault(t, append(slices.Clone(b), make([]byte, n)...), api.ErrEnd)
	}
	checkFault(t, append(slices.Clone(b), b...), api.ErrEnd)
}

func TestMagic(t *testing.T) {
	p := ordinary()
	for _, s := range []string{"REGK", "regl", "SEGL", "RFGL", "REFL", "LGER", "\x00\x00\x00\x00", "\xff\xff\xff\xff"} {
		checkFault(t, p.with(atMagic, []byte(s)...).all(), api.ErrMagic)
		checkFault(t, []byte(s), api.ErrMagic)
	}
	for _, s := range []string{"", "R", "RE", "REG", "REGREGL", " REGL", "x", "REG\x00"} {
		checkFault(t, []byte(s), api.ErrMagic)
		checkFault(t, p.with(atMagic, []byte(s)...).all(), api.ErrMagic)
	}
}

func TestFaultsOfThePool(t *testing.T) {
	p := ordinary()
	for told, want := range map[string]api.Errno{
		"\x00\x00": api.ErrConst, "\x03\xe9": api.ErrConst, "\x00\x02\x02": api.ErrConst, "\x00\x02\x07\x00\x01": api.ErrConst, "\x00\x02\x08\x00\x02": api.ErrConst,
		"\x00\x03\x07\x00\x02\x01\x00\x01-": api.ErrName, "\x00\x03\x07\x00\x02\x01\x00\x01<": api.ErrName,
		"\x00\x04\x07\x00\x02\x01\x00\x01I\x0a\x00\x01\x00\x02\x00\x02": api.ErrDesc,
	} {
		checkFault(t, []byte("REGL"+told), want)
		// It is met ahead of all that is behind.
		checkFault(t, p.with(atPool, []byte(told)...).all(), want)
		checkFault(t, p.with(atPool, []byte(told)...).with(atFlags, 0xff, 0xff).all(), want)
	}
	for _, told := range []string{"", "\x00", "\x00\x02", "\x00\x02\x01", "\x00\x02\x01\x00\x05aaaa"} {
		checkFault(t, []byte("REGL"+told), api.ErrEnd)
	}
	checkFault(t, []byte("REGL\x00\x02\x01\xff\xff"+strings.Repeat("a", 65520)), api.ErrEnd)
}

// A slot is a piece that names a constant.
type slot struct {
	at int
	// What it answers, by the number of the constant: each slot wants a kind, and most of them a little more.
	answers func(i int) api.Errno
	// Where that is met, if it is no ErrConst.
	met int
}

// wants answers by the kind of a constant, and what more may be wrong with it.
func wants(kind int, wrong api.Errno, rightAre ...int) func(int) api.Errno {
	return func(i int) api.Errno {
		switch {
		case i >= len(ordinaryPool) || ordinaryPool[i].Kind != kind:
			return api.ErrConst
		case !slices.Contains(rightAre, i):
			return wrong
		}
		return api.OK
	}
}

// slots are all those of the ordinary file. 3 and 4 are classes, 9 is an array; 1, 2, 5 and 6 are names, 16 one of a method.
func slots() []slot {
	class := wants(api.ConstClass, api.ErrName, 3, 4)
	anyClass := wants(api.ConstClass, api.OK, 3, 4, 9)
	rowClass := func(i int) api.Errno {
		if i == 0 {
			return api.OK
		}
		return wants(api.ConstClass, api.ErrConst, 3, 4)(i)
	}
	fieldName := wants(api.ConstText, api.ErrName, 1, 2, 5, 6)
	methodName := wants(api.ConstText, api.ErrName, 1, 2, 5, 6, 16)
	methodDesc := wants(api.ConstText, api.ErrDesc, 7)
	return []slot{
		{atName, class, atName}, {atSuper, class, atSuper}, {atIface, class, atIface},
		{atFieldName, fieldName, atFieldDesc}, {atFieldDesc, wants(api.ConstText, api.ErrDesc, 6, 8), atFieldDesc},
		{atAbstractName, methodName, atAbstractDesc}, {atAbstractDesc, methodDesc, atAbstractDesc},
		{atMethodName, methodName, atMethodDesc}, {atMethodDesc, methodDesc, atMethodDesc},
		{atCaught, rowClass, atCaught}, {atTypeClass, anyClass, atTypeClass}, {atStackClass, anyClass, atStackClass},
	}
}

func TestNumbersOfConstants(t *testing.T) {
	p := ordinary()
	far := []int{len(ordinaryPool), len(ordinaryPool) + 1, 255, 256, 0x0300, 0x0303, 999, 1000, 1001, 32767, 32768, 65535}
	for _, s := range slots() {
		for i := range len(ordinaryPool) {
			checkSlot(t, p, s, i)
		}
		for _, i := range far {
			checkSlot(t, p, s, i)
		}
	}
}

// checkSlot names constant i there.
func checkSlot(t *testing.T, p parts, s slot, i int) {
	t.Helper()
	q := p.with(s.at, two(i)...)
	switch want := s.answers(i); want {
	case api.OK:
		checkNotMet(t, q, s.at)
		if _, e := file.Parse(q.all()); e != api.OK && e != api.ErrTwice {
			t.Fatalf("constant %d at piece %d: %v", i, s.at, e)
		}
	case api.ErrConst:
		checkMet(t, q, s.at, want)
	default:
		checkMet(t, q, s.met, want)
	}
}

func TestNumbersOfConstantsAnswered(t *testing.T) {
	p := ordinary()
	want := ordinaryClass()
	want.Name, want.Super, want.Ifaces[0] = "Object", "a", "a"
	want.Fields[0] = api.Field{Flags: 8, Name: "Object", Desc: "[I"}
	want.Methods[0].Name, want.Methods[1].Name = "<init>", "I"
	want.Methods[1].Rows[0].Class, want.Methods[1].Rows[1].Class = "", "Object"
	frame := want.Methods[1].Frames[0]
	frame.Locals[4], frame.Stack[0] = "[I", "LObject;"
	p = p.with(atName, 0, 4).with(atSuper, 0, 3).with(atIface, 0, 3).with(atFieldName, 0, 2).with(atFieldDesc, 0, 8)
	p = p.with(atAbstractName, 0, 16).with(atMethodName, 0, 6).with(atCaught, 0, 0).with(atSecondRow, 0, 0, 0, 3, 0, 2, 0, 4)
	checkParse(t, p.with(atTypeClass, 0, 9).with(atStackClass, 0, 4).all(), want, api.OK)
}

func TestCountsAboveTheirLimits(t *testing.T) {
	p := ordinary()
	for at, most := range map[int]int{atIfaces: 8, atFields: 60, atMethods: 60, atStack: 20, atLocals: 40, atCodeLength: 4000, atRows: 60, atFrames: 4000} {
		for _, n := range []int{most + 1, most + 2, most + 256, 4001, 32768, 65535} {
			checkMet(t, p.with(at, two(n)...), at, api.ErrLong)
		}
		checkNotMet(t, p.with(at, two(most)...), at)
	}
	for at, most := range map[int]int{atFrameLocals: 40, atFrameStack: 20} {
		for n := range 256 {
			if n > most {
				checkMet(t, p.with(at, one(n)...), at, api.ErrLong)
				continue
			}
			checkNotMet(t, p.with(at, one(n)...), at)
		}
	}
}

func TestCodeCutOff(t *testing.T) {
	p := ordinary()
	for _, n := range []int{4, 5, 255, 4000} {
		checkNotMet(t, p.with(atCodeLength, two(n)...), atCode)
	}
	long := p.with(atCodeLength, two(4000)...).with(atCode, make([]byte, 4000)...)
	for _, n := range []int{0, 1, 3999, 4000} {
		b := long.upTo(atCodeLength)
		checkFault(t, append(b, make([]byte, n)...), api.ErrEnd)
	}
	want := ordinaryClass()
	want.Methods[1].Code = make([]byte, 4000)
	checkParse(t, long.all(), want, api.OK)
}

func TestBytesOfTypes(t *testing.T) {
	p := ordinary().with(atFrameLocals, 4)
	simple := []string{"", "I", "J", "N"}
	for c := range 256 {
		local := p.with(atType).with(atTypeClass).with(atSimpleTypes, 0, 1, 2, byte(c))
		stack := p.with(atType).with(atTypeClass).with(atStackType, byte(c)).with(atStackClass)
		if c == 4 {
			// It wants a class's number: 04 00 03.
			checkNotMet(t, local, atSimpleTypes)
			checkNotMet(t, stack, atStackType)
			continue
		}
		if c > 4 {
			checkMet(t, local, atSimpleTypes, api.ErrFrame)
			checkMet(t, stack, atStackType, api.ErrFrame)
			continue
		}
		want := ordinaryClass()
		want.Methods[1].Frames[0].Locals = []string{"", "I", "J", simple[c]}
		checkParse(t, local.all(), want, api.OK)
		want.Methods[1].Frames[0].Locals = simple
		want.Methods[1].Frames[0].Stack = []string{simple[c]}
		checkParse(t, stack.all(), want, api.OK)
	}
}

// flagsOfClasses are those that a class may have.
var flagsOfClasses = []int{0, abstractFlag, interfaceFlags}

// checkUnknown: flags with other bits are met where they are read. Those with few bits, or nearly all, are looked at more closely.
func checkUnknown(t *testing.T, p parts, at, flags int) {
	t.Helper()
	if n := bits.OnesCount(uint(flags)); n <= 3 || n >= 15 {
		checkMet(t, p, at, api.ErrFlags)
		return
	}
	checkFault(t, p.upTo(at), api.ErrFlags)
}

func TestFlagsOfClasses(t *testing.T) {
	p := append(ordinary()[:atIfaces], two(0), two(0), two(0))
	for flags := range 65536 {
		q := p.with(atFlags, two(flags)...)
		if !slices.Contains(flagsOfClasses, flags) {
			checkUnknown(t, q, atFlags, flags)
			continue
		}
		checkParse(t, q.all(), api.Class{Flags: flags, Name: "a", Super: "Object", Pool: ordinaryPool}, api.OK)
	}
}

// The pieces of a file with a field or a method and no other ones, behind the parent's.
const (
	atMemberFlags = atIfaces + 1 + iota
	atMemberName
	atMemberDesc
	atMemberRest
)

// withField, withMethod and withAbstract are those files, by the flags of the class and of the member.
func withField(class, flags int) parts {
	return append(ordinary().with(atFlags, two(class)...)[:atIfaces], []byte("\x00\x00\x00\x01"), two(flags), two(5), two(6), two(0))
}

func withMethod(class, flags int) parts {
	return append(ordinary().with(atFlags, two(class)...)[:atIfaces], []byte("\x00\x00\x00\x00\x00\x01"), two(flags), two(5), two(7), make([]byte, 10))
}

func withAbstract(class, flags int) parts { return withMethod(class, flags).with(atMemberRest) }

func TestFlagsOfFields(t *testing.T) {
	for _, class := range flagsOfClasses {
		of := withField(class, 0)
		for flags := range 65536 {
			p := of.with(atMemberFlags, two(flags)...)
			switch {
			case flags != 0 && flags != staticFlag:
				checkUnknown(t, p, atMemberFlags, flags)
			case class == interfaceFlags && flags == 0:
				checkMisfit(t, p)
			default:
				want := api.Class{Flags: class, Name: "a", Super: "Object", Pool: ordinaryPool, Fields: []api.Field{{Flags: flags, Name: "f", Desc: "I"}}}
				checkParse(t, p.all(), want, api.OK)
			}
		}
	}
}

func TestFlagsOfMethods(t *testing.T) {
	fit := map[int][]int{0: {0, 8}, abstractFlag: {0, 8, 0x400}, interfaceFlags: {0x400}}
	for _, class := range flagsOfClasses {
		of, abstract := withMethod(class, 0), withAbstract(class, 0)
		for flags := range 65536 {
			p := of
			if flags&abstractFlag != 0 {
				p = abstract
			}
			p = p.with(atMemberFlags, two(flags)...)
			switch {
			case !slices.Contains([]int{0, 8, 0x400, 0x408}, flags):
				checkUnknown(t, p, atMemberFlags, flags)
			case !slices.Contains(fit[class], flags):
				checkMisfit(t, p)
			default:
				want := api.Class{Flags: class, Name: "a", Super: "Object", Pool: ordinaryPool, Methods: []api.Method{{Flags: flags, Name: "f", Desc: "()V"}}}
				checkParse(t, p.all(), want, api.OK)
			}
		}
	}
}

// checkMisfit: that a member's flags don't fit is met behind its descriptor, and so are its other faults ahead of that.
func checkMisfit(t *testing.T, p parts) {
	t.Helper()
	checkMet(t, p, atMemberDesc, api.ErrFlags)
	checkMet(t, p.with(atMemberName, 0, 3), atMemberName, api.ErrConst)
	checkMet(t, p.with(atMemberDesc, 0, 0), atMemberDesc, api.ErrConst)
	checkMet(t, p.with(atMemberName, 0, 17), atMemberDesc, api.ErrName)
	checkMet(t, p.with(atMemberDesc, 0, 5), atMemberDesc, api.ErrDesc)
	// Of a method with a body it is met ahead of the body's faults.
	checkMet(t, p.with(atMemberRest, 0xff, 0xff), atMemberDesc, api.ErrFlags)
}

// TestOrderInMembers: the name's number, then the descriptor's, then the name itself, then the descriptor.
func TestOrderInMembers(t *testing.T) {
	for _, p := range []parts{withField(0, 0), withField(0, 8), withMethod(0, 0), withMethod(0, 8), withAbstract(abstractFlag, abstractFlag), withAbstract(interfaceFlags, abstractFlag)} {
		badName, badDesc, none := two(17), two(5), two(3)
		checkMet(t, p.with(atMemberName, none...).with(atMemberDesc, none...), atMemberName, api.ErrConst)
		checkMet(t, p.with(atMemberName, badName...).with(atMemberDesc, none...), atMemberDesc, api.ErrConst)
		checkMet(t, p.with(atMemberName, badName...).with(atMemberDesc, badDesc...), atMemberDesc, api.ErrName)
		checkMet(t, p.with(atMemberDesc, badDesc...), atMemberDesc, api.ErrDesc)
		// Unknown flags are met ahead of them all.
		checkMet(t, p.with(atMemberFlags, 0, 1).with(atMemberName, none...), atMemberFlags, api.ErrFlags)
	}
}

// TestFirstOfTwoFaults puts two faults in each two pieces: the one in front is told.
func TestFirstOfTwoFaults(t *testing.T) {
	type fault struct {
		at   int
		told []byte
		met  int
		want api.Errno
	}
	faults := []fault{
		{atFlags, two(0x200), atFlags, api.ErrFlags}, {atName, two(9), atName, api.ErrName}, {atSuper, two(0), atSuper, api.ErrConst},
		{atIfaces, two(9), atIfaces, api.ErrLong}, {atIface, two(9), atIface, api.ErrName}, {atFields, two(61), atFields, api.ErrLong},
		{atFieldFlags, two(0x400), atFieldFlags, api.ErrFlags}, {atFieldName, two(16), atFieldDesc, api.ErrName}, {atFieldName, two(10), atFieldName, api.ErrConst}, {atFieldDesc, two(7), atFieldDesc, api.ErrDesc},
		{atMethods, two(61), atMethods, api.ErrLong}, {atAbstractFlags, two(0x408), atAbstractDesc, api.ErrFlags}, {atAbstractName, two(17), atAbstractDesc, api.ErrName}, {atAbstractDesc, two(6), atAbstractDesc, api.ErrDesc},
		{atMethodFlags, two(0x200), atMethodFlags, api.ErrFlags}, {atMethodName, two(3), atMethodName, api.ErrConst}, {atMethodDesc, two(8), atMethodDesc, api.ErrDesc},
		{atStack, two(21), atStack, api.ErrLong}, {atLocals, two(41), atLocals, api.ErrLong}, {atCodeLength, two(4001), atCodeLength, api.ErrLong},
		{atRows, two(61), atRows, api.ErrLong}, {atCaught, two(9), atCaught, api.ErrConst}, {atFrames, two(4001), atFrames, api.ErrLong},
		{atFrameLocals, one(41), atFrameLocals, api.ErrLong}, {atSimpleTypes, []byte{0, 1, 2, 5}, atSimpleTypes, api.ErrFrame}, {atTypeClass, two(5), atTypeClass, api.ErrConst},
		{atFrameStack, one(21), atFrameStack, api.ErrLong}, {atStackType, one(255), atStackType, api.ErrFrame}, {atStackClass, two(65535), atStackClass, api.ErrConst},
	}
	p := ordinary()
	for _, x := range faults {
		checkMet(t, p.with(x.at, x.told...), x.met, x.want)
		for _, y := range faults {
			if x.met < y.met && x.at != y.at {
				checkMet(t, p.with(y.at, y.told...).with(x.at, x.told...), x.met, x.want)
			}
		}
	}
}
