package press_test

import (
	"slices"
	"strconv"
	"strings"
	"testing"

	"reglet/api"
	"reglet/press"
)

// ordinary is a class that has a part of each sort, and a constant of each kind.
func ordinary() api.Class {
	return api.Class{
		Flags: 0x400, Name: "a", Super: "Object", Ifaces: []string{"b"},
		Pool: []api.Const{
			{},
			{Kind: 7, Text: "a"},
			{Kind: 1, Text: "a"},
			{Kind: 1, Text: "Object"},
			{Kind: 7, Text: "Object"},
			{Kind: 1, Text: "b"},
			{Kind: 7, Text: "b"},
			{Kind: 1, Text: "f"},
			{Kind: 1, Text: "[I"},
			{Kind: 1, Text: "()V"},
			{Kind: 7, Text: "[I"},
			{Kind: 9, Text: "a", Name: "f", Desc: "[I"},
			{Kind: 10, Text: "b", Name: "f", Desc: "()V"},
			{Kind: 11, Text: "Object", Name: "b", Desc: "()V"},
			{Kind: 3, Num: -2},
			{Kind: 5, Num: 0x0102030405060708},
			{Kind: 8, Text: "()V"},
			{Kind: 1, Text: ""},
		},
		Fields: []api.Field{{Name: "f", Desc: "[I"}, {Flags: 8, Name: "b", Desc: "[I"}},
		Methods: []api.Method{
			{Flags: 0x400, Name: "f", Desc: "()V"},
			{
				Flags: 8, Name: "b", Desc: "()V", Stack: 20, Locals: 40, Code: []byte{0, 0xff, 0xb1},
				Rows: []api.Row{{From: 1, To: 2, At: 0x1234, Class: "b"}, {To: 3, At: 65535}},
				Frames: []api.Frame{
					{Pc: 0x0203, Locals: []string{"", "I", "J", "N", "La;", "[I"}, Stack: []string{"LObject;"}},
					{Pc: 2, Stack: []string{"N", "J", ""}},
				},
			},
		},
	}
}

// The ordinary class's bytes behind its pool: what names a constant is its number.
var ordinaryRest = []string{
	"\x04\x00", "\x00\x01", "\x00\x04", "\x00\x01", "\x00\x06",
	"\x00\x02", "\x00\x00\x00\x07\x00\x08", "\x00\x08\x00\x05\x00\x08",
	"\x00\x02", "\x04\x00\x00\x07\x00\x09", "\x00\x08\x00\x05\x00\x09", "\x00\x14\x00\x28", "\x00\x03\x00\xff\xb1",
	"\x00\x02", "\x00\x01\x00\x02\x12\x34\x00\x06", "\x00\x00\x00\x03\xff\xff\x00\x00",
	"\x00\x02", "\x02\x03", "\x06", "\x00", "\x01", "\x02", "\x03", "\x04\x00\x01", "\x04\x00\x0a", "\x01", "\x04\x00\x04",
	"\x00\x02", "\x00", "\x03", "\x03", "\x02", "\x00",
}

var ordinaryPool = []string{
	"\x07\x00\x02", "\x01\x00\x01a", "\x01\x00\x06Object", "\x07\x00\x03", "\x01\x00\x01b", "\x07\x00\x05",
	"\x01\x00\x01f", "\x01\x00\x02[I", "\x01\x00\x03()V", "\x07\x00\x08",
	"\x09\x00\x01\x00\x07\x00\x08", "\x0a\x00\x06\x00\x07\x00\x09", "\x0b\x00\x04\x00\x05\x00\x09",
	"\x03\xff\xff\xff\xfe", "\x05\x01\x02\x03\x04\x05\x06\x07\x08", "\x08\x00\x09", "\x01\x00\x00",
}

// joined is a file of its pieces.
func joined(count string, pool, rest []string) []byte {
	return []byte("REGL" + count + strings.Join(pool, "") + strings.Join(rest, ""))
}

func TestOrdinaryClass(t *testing.T) {
	checkWrite(t, ordinary(), joined("\x00\x12", ordinaryPool, ordinaryRest))
}

func TestShortestClass(t *testing.T) {
	c := shortest
	c.Pool = []api.Const{{}, {Kind: 1, Text: "a"}, {Kind: 1, Text: "Object"}, {Kind: 7, Text: "a"}, {Kind: 7, Text: "Object"}}
	const pool = "REGL\x00\x05\x01\x00\x01a\x01\x00\x06Object\x07\x00\x01\x07\x00\x02"
	const rest = "\x00\x03\x00\x04\x00\x00\x00\x00\x00\x00"
	checkWrite(t, c, []byte(pool+"\x00\x00"+rest))
	c.Flags = 0x600
	checkWrite(t, c, []byte(pool+"\x06\x00"+rest))
	// Two classes may be one constant.
	c.Super = "a"
	checkWrite(t, c, []byte(pool+"\x06\x00\x00\x03\x00\x03\x00\x00\x00\x00\x00\x00"))
}

func TestExamplesOfTheChapter(t *testing.T) {
	c := pooled(shortest)
	c.Super = "z"
	checkRefused(t, c)
	c.Pool = append(c.Pool, api.Const{Kind: 1, Text: "z"})
	checkRefused(t, c)
	c.Pool = append(c.Pool, api.Const{Kind: 7, Text: "z"})
	checkWritten(t, c)
	checkRefused(t, pooled(withMethods(api.Method{Name: "m", Desc: "()V", Stack: 21})))
	checkWritten(t, pooled(withMethods(api.Method{Name: "m", Desc: "()V", Stack: 20})))
}

func TestInterface(t *testing.T) {
	checkWritten(t, pooled(api.Class{
		Flags: interfaceFlags, Name: "i", Super: "Object", Ifaces: []string{"j", "k/l"},
		Fields:  []api.Field{{Flags: staticFlag, Name: "f", Desc: "I"}, {Flags: staticFlag, Name: "g", Desc: "[Li;"}},
		Methods: []api.Method{{Flags: abstractFlag, Name: "m", Desc: "()V"}, {Flags: abstractFlag, Name: "m", Desc: "(I)V"}},
	}))
}

// TestEmptyLists: an empty list is written as none is.
func TestEmptyLists(t *testing.T) {
	c := pooled(withMethods(api.Method{Name: "m", Desc: "()V", Frames: []api.Frame{{}}}))
	want := wantWrite(c)
	checkWrite(t, c, want)
	c.Ifaces, c.Fields = []string{}, []api.Field{}
	m := &c.Methods[0]
	m.Code, m.Rows, m.Frames[0].Locals, m.Frames[0].Stack = []byte{}, []api.Row{}, []string{}, []string{}
	checkWrite(t, c, want)
	c.Flags, m.Flags, m.Frames = abstractFlag, abstractFlag, []api.Frame{}
	checkWritten(t, c)
}

// TestConstantsTwice: of equal constants the first one is named, from each place that names any, also if it stands behind the one that names it.
func TestConstantsTwice(t *testing.T) {
	c := api.Class{
		Name: "a", Super: "b", Ifaces: []string{"a"},
		Pool: []api.Const{
			{},
			{Kind: 7, Text: "b"}, {Kind: 8, Text: "b"}, {Kind: 9, Text: "a", Name: "a", Desc: "I"}, {Kind: 11, Text: "b", Name: "b", Desc: "()V"},
			{Kind: 7, Text: "a"}, {Kind: 1, Text: "b"}, {Kind: 1, Text: "a"}, {Kind: 1, Text: "I"}, {Kind: 1, Text: "()V"},
			{Kind: 1, Text: "b"}, {Kind: 1, Text: "a"}, {Kind: 7, Text: "a"}, {Kind: 7, Text: "b"}, {Kind: 1, Text: "I"}, {Kind: 1, Text: "()V"}, {Kind: 8, Text: "b"},
			{Kind: 9, Text: "a", Name: "a", Desc: "I"},
		},
		Fields: []api.Field{{Name: "a", Desc: "I"}},
		Methods: []api.Method{{
			Name: "b", Desc: "()V", Rows: []api.Row{{Class: "a"}}, Frames: []api.Frame{{Locals: []string{"La;", "Lb;"}}},
		}},
	}
	checkWrite(t, c, joined("\x00\x12", []string{
		"\x07\x00\x06", "\x08\x00\x06", "\x09\x00\x05\x00\x07\x00\x08", "\x0b\x00\x01\x00\x06\x00\x09",
		"\x07\x00\x07", "\x01\x00\x01b", "\x01\x00\x01a", "\x01\x00\x01I", "\x01\x00\x03()V",
		"\x01\x00\x01b", "\x01\x00\x01a", "\x07\x00\x07", "\x07\x00\x06", "\x01\x00\x01I", "\x01\x00\x03()V", "\x08\x00\x06",
		"\x09\x00\x05\x00\x07\x00\x08",
	}, []string{
		"\x00\x00", "\x00\x05", "\x00\x01", "\x00\x01", "\x00\x05",
		"\x00\x01", "\x00\x00\x00\x07\x00\x08",
		"\x00\x01", "\x00\x00\x00\x06\x00\x09", "\x00\x00\x00\x00\x00\x00",
		"\x00\x01", "\x00\x00\x00\x00\x00\x00\x00\x05", "\x00\x01", "\x00\x00", "\x02", "\x04\x00\x05", "\x04\x00\x01", "\x00",
	}))
}

// TestEachConstantTwice: another one of any constant, behind all, changes nothing else; ahead of all it is named instead.
func TestEachConstantTwice(t *testing.T) {
	c := ordinary()
	for i := 1; i < len(c.Pool); i++ {
		d := c
		d.Pool = append(slices.Clone(c.Pool), c.Pool[i])
		checkWrite(t, d, joined("\x00\x13", append(slices.Clone(ordinaryPool), ordinaryPool[i-1]), ordinaryRest))
		for at := 1; at < len(c.Pool); at++ {
			d.Pool = slices.Insert(slices.Clone(c.Pool), at, c.Pool[i])
			checkWritten(t, d)
		}
	}
}

// TestConstantsAlike: a constant of another kind, or that goes on, isn't the one that is wanted.
func TestConstantsAlike(t *testing.T) {
	c := shortest
	c.Pool = []api.Const{
		{}, {Kind: 8, Text: "a"}, {Kind: 7, Text: "aa"}, {Kind: 9, Text: "a", Name: "aa", Desc: "La;"}, {Kind: 10, Text: "a", Name: "a", Desc: "()V"},
		{Kind: 1, Text: "aa"}, {Kind: 1, Text: "La;"}, {Kind: 1, Text: "()V"}, {Kind: 1, Text: "a"}, {Kind: 7, Text: "a"}, {Kind: 1, Text: "Object"}, {Kind: 7, Text: "Object"},
	}
	c.Fields = []api.Field{{Name: "a", Desc: "La;"}}
	checkWrite(t, c, joined("\x00\x0c", []string{
		"\x08\x00\x08", "\x07\x00\x05", "\x09\x00\x09\x00\x05\x00\x06", "\x0a\x00\x09\x00\x08\x00\x07",
		"\x01\x00\x02aa", "\x01\x00\x03La;", "\x01\x00\x03()V", "\x01\x00\x01a", "\x07\x00\x08", "\x01\x00\x06Object", "\x07\x00\x0a",
	}, []string{"\x00\x00", "\x00\x09", "\x00\x0b", "\x00\x00", "\x00\x01", "\x00\x00\x00\x08\x00\x06", "\x00\x00"}))
}

// TestNumbersOfConstants: they stand with all their bytes, below 0 too.
func TestNumbersOfConstants(t *testing.T) {
	for n, told := range map[int64]string{
		0: "\x00\x00\x00\x00", 1: "\x00\x00\x00\x01", -1: "\xff\xff\xff\xff", 0x01020304: "\x01\x02\x03\x04", -0x80000000: "\x80\x00\x00\x00", 0x7fffffff: "\x7f\xff\xff\xff",
	} {
		sign := "\x00\x00\x00\x00"
		if n < 0 {
			sign = "\xff\xff\xff\xff"
		}
		checkConstant(t, api.Const{Kind: 3, Num: n}, "\x03"+told)
		checkConstant(t, api.Const{Kind: 5, Num: n}, "\x05"+sign+told)
	}
	for n, told := range map[int64]string{
		0x80000000: "\x00\x00\x00\x00\x80\x00\x00\x00", -0x80000001: "\xff\xff\xff\xff\x7f\xff\xff\xff", 1 << 32: "\x00\x00\x00\x01\x00\x00\x00\x00",
		-1 << 63: "\x80\x00\x00\x00\x00\x00\x00\x00", 1<<63 - 1: "\x7f\xff\xff\xff\xff\xff\xff\xff", 0x0102030405060708: "\x01\x02\x03\x04\x05\x06\x07\x08",
	} {
		checkConstant(t, api.Const{Kind: 5, Num: n}, "\x05"+told)
		checkRefused(t, pooled(shortest, api.Const{Kind: 3, Num: n}))
	}
}

// checkConstant writes a class with that constant ahead of its own.
func checkConstant(t *testing.T, c api.Const, told string) {
	t.Helper()
	checkWrite(t, pooled(shortest, c), joined("\x00\x06", []string{told, "\x01\x00\x01a", "\x07\x00\x02", "\x01\x00\x06Object", "\x07\x00\x04"}, []string{"\x00\x00\x00\x03\x00\x05\x00\x00\x00\x00\x00\x00"}))
}

// TestAnyTexts: a text may be of any bytes, where nothing is named by it.
func TestAnyTexts(t *testing.T) {
	all := make([]byte, 256)
	for i := range all {
		all[i] = byte(i)
	}
	for _, s := range []string{"", "-", "\x00", "\xff\xfe", "\u00e4\u2603", "REGL", string(all), strings.Repeat("\x00", 60000)} {
		checkConstant(t, api.Const{Kind: 1, Text: s}, "\x01"+string([]byte{byte(len(s) >> 8), byte(len(s))})+s)
		checkWritten(t, pooled(shortest, api.Const{Kind: 8, Text: s}))
	}
}

// limits is, for each count, a class that has so many, and how many there may be.
var limits = []struct {
	what string
	most int
	of   func(n int) api.Class
}{
	{"interfaces", 8, func(n int) api.Class { return api.Class{Name: "a", Super: "Object", Ifaces: numbered(n)} }},
	{"interfaces of one name", 8, func(n int) api.Class {
		return api.Class{Name: "a", Super: "Object", Ifaces: slices.Repeat([]string{"a"}, n)}
	}},
	{"fields", 60, func(n int) api.Class {
		var fields []api.Field
		for _, name := range numbered(n) {
			fields = append(fields, api.Field{Name: name, Desc: "J"})
		}
		return withFields(fields...)
	}},
	{"methods", 60, func(n int) api.Class {
		var methods []api.Method
		for _, name := range numbered(n) {
			methods = append(methods, api.Method{Name: name, Desc: "()V", Code: []byte{0xb1}})
		}
		return withMethods(methods...)
	}},
	{"stack", 20, func(n int) api.Class { return withMethods(api.Method{Name: "m", Desc: "()V", Stack: n}) }},
	{"locals", 40, func(n int) api.Class { return withMethods(api.Method{Name: "m", Desc: "()V", Locals: n}) }},
	{"code", 4000, func(n int) api.Class {
		return withMethods(api.Method{Name: "m", Desc: "()V", Code: []byte(strings.Repeat("\xb1\x00", n)[:n])})
	}},
	{"rows", 60, func(n int) api.Class {
		return withMethods(api.Method{Name: "m", Desc: "()V", Rows: slices.Repeat([]api.Row{{To: 1, Class: "a"}}, n)})
	}},
	{"frames", 4000, func(n int) api.Class {
		return withMethods(api.Method{Name: "m", Desc: "()V", Frames: slices.Repeat([]api.Frame{{Pc: 1, Locals: []string{"I"}, Stack: []string{"[I"}}}, n)})
	}},
	{"locals of a frame", 40, func(n int) api.Class {
		return withMethods(api.Method{Name: "m", Desc: "()V", Frames: []api.Frame{{Locals: slices.Repeat([]string{"La;"}, n), Stack: []string{"I"}}}})
	}},
	{"stack of a frame", 20, func(n int) api.Class {
		return withMethods(api.Method{Name: "m", Desc: "()V", Frames: []api.Frame{{Locals: []string{"I"}, Stack: slices.Repeat([]string{"J"}, n)}}})
	}},
}

func TestLimits(t *testing.T) {
	for _, x := range limits {
		t.Run(x.what, func(t *testing.T) {
			for _, n := range []int{0, 1, x.most - 1, x.most} {
				checkWritten(t, pooled(x.of(n)))
			}
			// A count of one byte, or of two, looks like a small one, if it is much too great.
			for _, n := range []int{x.most + 1, 2 * x.most, 256 + x.most, 65536} {
				c := x.of(n)
				c.Pool = pooled(x.of(min(n, x.most))).Pool
				checkRefused(t, c)
			}
			checkRefused(t, pooled(x.of(x.most+1)))
		})
	}
}

// TestAllLimitsAtOnce: none counts against another one.
func TestAllLimitsAtOnce(t *testing.T) {
	frame := api.Frame{Pc: 9, Locals: slices.Repeat([]string{"I", ""}, 20), Stack: slices.Repeat([]string{"N", "J"}, 10)}
	c := api.Class{Name: "a", Super: "Object", Ifaces: numbered(8)}
	for _, name := range numbered(60) {
		c.Fields = append(c.Fields, api.Field{Name: name, Desc: "I"})
		c.Methods = append(c.Methods, api.Method{Name: name, Desc: "()V", Stack: 20, Locals: 40, Code: make([]byte, 50), Rows: slices.Repeat([]api.Row{{Class: "a"}}, 60), Frames: []api.Frame{frame, frame}})
	}
	c.Methods[59].Code = make([]byte, 4000)
	checkWritten(t, pooled(c))
}

func TestMostConstants(t *testing.T) {
	for _, n := range []int{998, 999, 1000, 1001, 65536 + 4} {
		consts := make([]api.Const, n-4)
		for i := range consts {
			consts[i] = api.Const{Kind: 1, Text: strconv.Itoa(i)}
		}
		c := shortest
		c.Pool = slices.Concat([]api.Const{{}}, consts, pooled(shortest).Pool[1:])
		if n < 1000 {
			checkWritten(t, c)
		} else {
			checkRefused(t, c)
		}
	}
	// There may be 999: so the greatest number of one has two bytes.
	c := shortest
	c.Pool = slices.Concat([]api.Const{{}}, slices.Repeat([]api.Const{{Kind: 3}}, 995), pooled(shortest).Pool[1:])
	checkWrite(t, c, joined("\x03\xe8", []string{strings.Repeat("\x03\x00\x00\x00\x00", 995), "\x01\x00\x01a\x07\x03\xe4\x01\x00\x06Object\x07\x03\xe6"}, []string{"\x00\x00\x03\xe5\x03\xe7\x00\x00\x00\x00\x00\x00"}))
}

// TestLongestFile: a text that nobody wants fills it.
func TestLongestFile(t *testing.T) {
	rest := len(wantWrite(pooled(shortest))) + 3
	for _, n := range []int{65535, 65536} {
		c := pooled(shortest, api.Const{Kind: 1, Text: strings.Repeat("x", n-rest)})
		checkWritten(t, c)
		if b, _ := press.Write(c); len(b) != n {
			t.Fatal(len(b), n)
		}
	}
	for _, n := range []int{65537, 65538, 65535 + rest, 65536 + rest, 65537 + rest, 2*65536 + rest, 1 << 20} {
		checkRefused(t, pooled(shortest, api.Const{Kind: 1, Text: strings.Repeat("x", n-rest)}))
	}
	half := strings.Repeat("x", 32768)
	checkRefused(t, pooled(shortest, api.Const{Kind: 1, Text: half}, api.Const{Kind: 1, Text: half + "x"}))
	// A text that is shared by all constants.
	c := shortest
	c.Pool = append(pooled(shortest).Pool, slices.Repeat([]api.Const{{Kind: 1, Text: half}}, 900)...)
	checkRefused(t, c)
	// The longest file may be one by its code too.
	var methods []api.Method
	for _, name := range numbered(17) {
		methods = append(methods, api.Method{Name: name, Desc: "()V", Code: make([]byte, 4000)})
	}
	checkRefused(t, pooled(withMethods(methods...)))
	checkWritten(t, pooled(withMethods(methods[1:]...)))
	short := pooled(withMethods(methods...))
	short.Methods[16].Code = nil
	short.Methods[16].Code = make([]byte, 65536-len(wantWrite(short)))
	checkWritten(t, short)
	short.Methods[16].Code = append(short.Methods[16].Code, 0)
	checkRefused(t, short)
}

// TestWriteAnswersNewMemory: neither what was handed in nor another answer is met through what was written.
func TestWriteAnswersNewMemory(t *testing.T) {
	c := ordinary()
	want := joined("\x00\x12", ordinaryPool, ordinaryRest)
	first, _ := press.Write(c)
	second, _ := press.Write(c)
	if cap(first) != len(first) {
		t.Errorf("there is room behind what was written: %d for %d bytes", cap(first), len(first))
	}
	clear(first)
	for _, s := range spotsOf(&c) {
		s.value.SetZero()
	}
	if !slices.Equal(second, want) {
		t.Fatalf("% x changes with another answer, or with what was handed in", second)
	}
}

// TestRoomBehindLists: it isn't written into.
func TestRoomBehindLists(t *testing.T) {
	c := ordinary()
	room := append(slices.Clone(c.Methods[1].Code), "room behind"...)
	c.Methods[1].Code = room[:3]
	pool := append(slices.Clone(c.Pool), api.Const{Kind: 1, Text: "behind"})
	c.Pool = pool[:len(pool)-1]
	ifaces := []string{"b", "behind"}
	c.Ifaces = ifaces[:1]
	checkWrite(t, c, joined("\x00\x12", ordinaryPool, ordinaryRest))
	if string(room[3:]) != "room behind" || pool[len(pool)-1].Text != "behind" || ifaces[1] != "behind" {
		t.Error(room, pool, ifaces)
	}
}
