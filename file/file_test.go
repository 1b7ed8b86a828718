package file_test

import (
	"slices"
	"strconv"
	"strings"
	"testing"

	"reglet/api"
	"reglet/file"
)

// The flags, as the chapter says them.
const (
	staticFlag     = 0x8
	abstractFlag   = 0x400
	interfaceFlags = 0x600
)

// shortest is the class of the chapter's example.
var shortest = api.Class{Name: "a", Super: "Object"}

// withMethods and withFields are that class with members.
func withMethods(methods ...api.Method) api.Class {
	c := shortest
	c.Methods = methods
	return c
}

func withFields(fields ...api.Field) api.Class {
	c := shortest
	c.Fields = fields
	return c
}

func TestExamplesOfTheChapter(t *testing.T) {
	const pool = "REGL\x00\x05\x01\x00\x01a\x01\x00\x06Object\x07\x00\x01\x07\x00\x02"
	const rest = "\x00\x03\x00\x04\x00\x00\x00\x00\x00\x00"
	want := shortest
	want.Pool = []api.Const{{}, {Kind: 1, Text: "a"}, {Kind: 1, Text: "Object"}, {Kind: 7, Text: "a"}, {Kind: 7, Text: "Object"}}
	checkParse(t, []byte(pool+"\x00\x00"+rest), want, api.OK)
	checkFault(t, []byte(pool+"\x00\x00"+rest+"\x00"), api.ErrEnd)
	checkFault(t, []byte(pool+"\x02\x00"+rest), api.ErrFlags)
	want.Flags = 0x600
	checkParse(t, []byte(pool+"\x06\x00"+rest), want, api.OK)
	if file.Magic != "REGL" {
		t.Error(file.Magic)
	}
}

func TestOrdinaryClass(t *testing.T) {
	checkTaken(t, api.Class{
		Name: "b/Thing", Super: "Object", Ifaces: []string{"x", "y/z"},
		Fields: []api.Field{{Name: "next", Desc: "Lb/Thing;"}, {Flags: staticFlag, Name: "all", Desc: "[[J"}, {Name: "n", Desc: "I"}},
		Methods: []api.Method{
			{Name: "<init>", Desc: "()V", Stack: 1, Locals: 1, Code: []byte{0xb1}},
			{
				Flags: staticFlag, Name: "main", Desc: "(I[Lb/Thing;)J", Stack: 20, Locals: 40, Code: []byte("\x00\xff\x10code\n"),
				Rows: []api.Row{{From: 0, To: 3, At: 5, Class: "Throwable"}, {From: 1, To: 2, At: 6}},
				Frames: []api.Frame{
					{Pc: 5, Locals: []string{"", "I", "J", "N", "Lb/Thing;", "[I", "[[Lx;"}, Stack: []string{"LThrowable;"}},
					{Pc: 6, Stack: []string{"J", "", "N", "I"}},
					{Pc: 7},
				},
			},
		},
	})
}

func TestInterface(t *testing.T) {
	checkTaken(t, api.Class{
		Flags: interfaceFlags, Name: "i", Super: "Object", Ifaces: []string{"j"},
		Fields:  []api.Field{{Flags: staticFlag, Name: "f", Desc: "I"}, {Flags: staticFlag, Name: "g", Desc: "[I"}},
		Methods: []api.Method{{Flags: abstractFlag, Name: "m", Desc: "()V"}, {Flags: abstractFlag, Name: "m", Desc: "(I)V"}},
	})
}

func TestAbstractClass(t *testing.T) {
	body := api.Method{Name: "n", Desc: "()I", Stack: 1, Locals: 1, Code: []byte{3, 0xac}}
	abstract := api.Method{Flags: abstractFlag, Name: "m", Desc: "()I"}
	c := withMethods(abstract, body)
	c.Flags = abstractFlag
	checkTaken(t, c)
	// The same the other way round: nothing of a body is read behind the abstract one.
	c.Methods = []api.Method{body, abstract}
	checkTaken(t, c)
	// An abstract class needs no abstract method.
	c.Methods = []api.Method{body}
	checkTaken(t, c)
	c.Fields = []api.Field{{Name: "f", Desc: "I"}}
	checkTaken(t, c)
}

// TestAnyPlaces: rows and frames may name any places, and code may be any bytes, or none: that is judged by layers behind.
func TestAnyPlaces(t *testing.T) {
	var c api.Class
	for _, n := range []int{0, 1, 255, 256, 4000, 4001, 32768, 65535} {
		c = withMethods(api.Method{Name: "m", Desc: "()V", Rows: []api.Row{{From: n}, {To: n}, {At: n}, {From: n, To: n - n/2, At: n / 3}}, Frames: []api.Frame{{Pc: n}, {Pc: n}}})
		checkTaken(t, c)
	}
	all := make([]byte, 256)
	for i := range all {
		all[i] = byte(i)
	}
	c.Methods[0].Code = all
	checkTaken(t, c)
}

// TestNoOtherRules: what no line of the chapter refuses is taken.
func TestNoOtherRules(t *testing.T) {
	checkTaken(t, api.Class{Name: "a", Super: "a", Ifaces: []string{"a", "a"}})
	checkTaken(t, api.Class{Name: "Object", Super: "I"})
	row := api.Row{To: 1, Class: "a"}
	frame := api.Frame{Pc: 1, Locals: []string{"I"}}
	checkTaken(t, withMethods(api.Method{Name: "a", Desc: "(I)V", Rows: []api.Row{row, row}, Frames: []api.Frame{frame, frame}}))
}

// named is a text of n bytes that is a name.
func named(n int) string { return strings.Repeat("n", n) }

func TestNamesOfMembers(t *testing.T) {
	for _, x := range []struct {
		name          string
		field, method api.Errno
	}{
		{"f", api.OK, api.OK}, {"a/b$_9", api.OK, api.OK}, {"I", api.OK, api.OK}, {named(60), api.OK, api.OK},
		{"<init>", api.ErrName, api.OK}, {"<", api.ErrName, api.OK}, {"a>", api.ErrName, api.OK},
		{"", api.ErrName, api.ErrName}, {"-", api.ErrName, api.ErrName}, {"a;", api.ErrName, api.ErrName}, {"[I", api.ErrName, api.ErrName},
		{"()V", api.ErrName, api.ErrName}, {"a\x00", api.ErrName, api.ErrName}, {"\xff", api.ErrName, api.ErrName}, {named(61), api.ErrName, api.ErrName},
	} {
		checkEither(t, withFields(api.Field{Name: x.name, Desc: "I"}), x.field)
		checkEither(t, withMethods(api.Method{Name: x.name, Desc: "()V"}), x.method)
	}
}

// checkEither tells a class that must be taken, or refused.
func checkEither(t *testing.T, c api.Class, want api.Errno) {
	t.Helper()
	if want == api.OK {
		checkTaken(t, c)
		return
	}
	checkRefused(t, c, want)
}

func TestDescriptorsOfMembers(t *testing.T) {
	for _, x := range []struct {
		descriptor    string
		field, method api.Errno
	}{
		{"I", api.OK, api.ErrDesc}, {"J", api.OK, api.ErrDesc}, {"La;", api.OK, api.ErrDesc}, {"[[[[[[[[J", api.OK, api.ErrDesc},
		{"()V", api.ErrDesc, api.OK}, {"(I[JLa;)[La;", api.ErrDesc, api.OK}, {"(" + strings.Repeat("J", 20) + ")I", api.ErrDesc, api.OK},
		{"", api.ErrDesc, api.ErrDesc}, {"V", api.ErrDesc, api.ErrDesc}, {"N", api.ErrDesc, api.ErrDesc}, {"II", api.ErrDesc, api.ErrDesc}, {"L;", api.ErrDesc, api.ErrDesc}, {"a", api.ErrDesc, api.ErrDesc},
		{"[[[[[[[[[J", api.ErrDesc, api.ErrDesc}, {"(V)I", api.ErrDesc, api.ErrDesc}, {"()", api.ErrDesc, api.ErrDesc}, {"()VV", api.ErrDesc, api.ErrDesc},
		{"(" + strings.Repeat("J", 21) + ")I", api.ErrDesc, api.ErrDesc},
	} {
		checkEither(t, withFields(api.Field{Name: "f", Desc: x.descriptor}), x.field)
		checkEither(t, withMethods(api.Method{Name: "f", Desc: x.descriptor}), x.method)
	}
}

// numbered is n different names.
func numbered(n int) []string {
	names := make([]string, n)
	for i := range names {
		names[i] = "n" + strconv.Itoa(i)
	}
	return names
}

// limits is, for each count, a class that has so many, and how many there may be.
var limits = []struct {
	what string
	most int
	of   func(n int) api.Class
}{
	{"interfaces", 8, func(n int) api.Class {
		return api.Class{Name: "a", Super: "Object", Ifaces: numbered(n)}
	}},
	{"fields", 60, func(n int) api.Class {
		var fields []api.Field
		for _, name := range numbered(n) {
			fields = append(fields, api.Field{Name: name, Desc: "J"})
		}
		return withFields(fields...)
	}},
	{"methods", 60, func(n int) api.Class {
		var methods []api.Method
		for _, name := range numbered(n) {
			methods = append(methods, api.Method{Name: name, Desc: "()V", Code: []byte{0xb1}})
		}
		return withMethods(methods...)
	}},
	{"stack", 20, func(n int) api.Class { return withMethods(api.Method{Name: "m", Desc: "()V", Stack: n}) }},
	{"locals", 40, func(n int) api.Class { return withMethods(api.Method{Name: "m", Desc: "()V", Locals: n}) }},
	{"code", 4000, func(n int) api.Class {
		return withMethods(api.Method{Name: "m", Desc: "()V", Code: []byte(strings.Repeat("\xb1\x00", n)[:n])})
	}},
	{"rows", 60, func(n int) api.Class {
		return withMethods(api.Method{Name: "m", Desc: "()V", Rows: slices.Repeat([]api.Row{{To: 1, Class: "a"}}, n)})
	}},
	{"frames", 4000, func(n int) api.Class {
		return withMethods(api.Method{Name: "m", Desc: "()V", Frames: slices.Repeat([]api.Frame{{Pc: 1, Locals: []string{"I"}, Stack: []string{"[I"}}}, n)})
	}},
	{"locals of a frame", 40, func(n int) api.Class {
		return withMethods(api.Method{Name: "m", Desc: "()V", Frames: []api.Frame{{Locals: slices.Repeat([]string{"La;"}, n), Stack: []string{"I"}}}})
	}},
	{"stack of a frame", 20, func(n int) api.Class {
		return withMethods(api.Method{Name: "m", Desc: "()V", Frames: []api.Frame{{Locals: []string{"I"}, Stack: slices.Repeat([]string{"J"}, n)}}})
	}},
}

func TestLimits(t *testing.T) {
	for _, x := range limits {
		t.Run(x.what, func(t *testing.T) {
			for _, n := range []int{0, 1, 2, x.most - 1, x.most} {
				checkTaken(t, x.of(n))
			}
			for _, n := range []int{x.most + 1, x.most + 2, 2 * x.most} {
				checkRefused(t, x.of(n), api.ErrLong)
			}
		})
	}
}

// TestAllLimitsAtOnce: none counts against another one.
func TestAllLimitsAtOnce(t *testing.T) {
	frame := api.Frame{Pc: 9, Locals: slices.Repeat([]string{"I", ""}, 20), Stack: slices.Repeat([]string{"N", "J"}, 10)}
	c := api.Class{Name: "a", Super: "Object", Ifaces: numbered(8)}
	for _, name := range numbered(60) {
		c.Fields = append(c.Fields, api.Field{Name: name, Desc: "I"})
		c.Methods = append(c.Methods, api.Method{Name: name, Desc: "()V", Stack: 20, Locals: 40, Code: make([]byte, 50), Rows: slices.Repeat([]api.Row{{Class: "a"}}, 60), Frames: []api.Frame{frame, frame}})
	}
	c.Methods[59].Code = make([]byte, 4000)
	checkTaken(t, c)
}

// ofLength is the shortest class in a file of so many bytes, and the class as it must be answered: a text that nobody names fills it.
func ofLength(n int) ([]byte, api.Class) {
	b, _ := told(shortest)
	var w teller
	w.text(strings.Repeat("x", n-len(b)-3))
	w.addClass(shortest)
	b, consts := w.told()
	want := shortest
	want.Pool = consts
	return b, want
}

func TestLongestFile(t *testing.T) {
	for _, n := range []int{65535, 65536} {
		b, want := ofLength(n)
		if len(b) != n {
			t.Fatal(len(b), n)
		}
		checkParse(t, b, want, api.OK)
	}
	// The length is looked at ahead of all else.
	for _, n := range []int{65537, 65538} {
		b, _ := ofLength(n)
		checkFault(t, b, api.ErrLong)
	}
	b, _ := told(shortest)
	checkFault(t, append(slices.Clone(b), make([]byte, 65537-len(b))...), api.ErrLong)
	checkFault(t, append(b, make([]byte, 65536-len(b))...), api.ErrEnd)
	checkFault(t, make([]byte, 65537), api.ErrLong)
	checkFault(t, make([]byte, 1<<20), api.ErrLong)
	checkFault(t, make([]byte, 65536), api.ErrMagic)
}

func TestMostConstants(t *testing.T) {
	for n, want := range map[int]api.Errno{999: api.OK, 1000: api.ErrConst} {
		w := teller{fresh: true}
		// Four are the class's own.
		for i := range n - 4 {
			w.text(strconv.Itoa(i))
		}
		w.addClass(shortest)
		b, consts := w.told()
		if want != api.OK {
			checkFault(t, b, want)
			continue
		}
		c := shortest
		c.Pool = consts
		checkParse(t, b, c, api.OK)
	}
}

func TestMembersTwice(t *testing.T) {
	f, g := api.Field{Name: "f", Desc: "I"}, api.Field{Name: "g", Desc: "I"}
	otherType, otherFlags := api.Field{Name: "f", Desc: "J"}, api.Field{Flags: staticFlag, Name: "f", Desc: "I"}
	checkTaken(t, withFields(f, g))
	for _, fields := range [][]api.Field{{f, f}, {f, otherType}, {otherFlags, f}, {f, g, f}, {g, f, f}, {f, f, g}, {f, g, otherType, g}} {
		checkRefused(t, withFields(fields...), api.ErrTwice)
	}
	m, n := api.Method{Name: "m", Desc: "()V"}, api.Method{Name: "n", Desc: "()V"}
	otherDesc, otherReturn := api.Method{Name: "m", Desc: "(I)V"}, api.Method{Name: "m", Desc: "()I"}
	static, long := api.Method{Flags: staticFlag, Name: "m", Desc: "()V"}, api.Method{Name: "m", Desc: "()V", Stack: 3, Locals: 2, Code: []byte{1}}
	checkTaken(t, withMethods(m, n, otherDesc, otherReturn))
	for _, methods := range [][]api.Method{{m, m}, {m, static}, {long, m}, {m, n, m}, {n, m, m}, {m, otherDesc, otherReturn, n, otherDesc}} {
		checkRefused(t, withMethods(methods...), api.ErrTwice)
	}
	abstract := api.Method{Flags: abstractFlag, Name: "m", Desc: "()V"}
	for _, methods := range [][]api.Method{{m, abstract}, {abstract, m}, {abstract, abstract}} {
		c := withMethods(methods...)
		c.Flags = abstractFlag
		checkRefused(t, c, api.ErrTwice)
	}
	// What name and descriptor begin and end with doesn't count; a field and a method of one name are two things.
	checkTaken(t, withMethods(api.Method{Name: "mI", Desc: "()V"}, api.Method{Name: "m", Desc: "(I)V"}))
	c := withMethods(m)
	c.Fields = []api.Field{{Name: "m", Desc: "I"}}
	checkTaken(t, c)
}

// TestTwiceByTwoTexts: two constants of one text name one member.
func TestTwiceByTwoTexts(t *testing.T) {
	field := api.Field{Name: "f", Desc: "I"}
	method := api.Method{Name: "m", Desc: "()V"}
	for _, c := range []api.Class{withFields(field, field), withMethods(method, method)} {
		w := teller{fresh: true}
		w.addClass(c)
		b, _ := w.told()
		checkFault(t, b, api.ErrTwice)
	}
}

func TestTwiceIsLast(t *testing.T) {
	field := api.Field{Name: "f", Desc: "I"}
	method := api.Method{Name: "m", Desc: "()V"}
	c := withFields(field, field)
	c.Methods = []api.Method{method, method}
	b, _ := told(c)
	checkFault(t, b, api.ErrTwice)
	checkFault(t, append(slices.Clone(b), 0), api.ErrEnd)
	for n := 4; n < len(b); n++ {
		checkFault(t, b[:n], api.ErrEnd)
	}
	c.Methods[1].Stack = 21
	checkRefused(t, c, api.ErrLong)
}

// TestParseAnswersNewMemory: neither what is handed in nor another list is met through what was answered.
func TestParseAnswersNewMemory(t *testing.T) {
	frame := api.Frame{Pc: 1, Locals: []string{"I", "J"}, Stack: []string{"N"}}
	method := api.Method{Name: "m", Desc: "()V", Code: []byte("code"), Rows: []api.Row{{To: 1, Class: "a"}}, Frames: []api.Frame{frame, frame}}
	other := method
	other.Name = "n"
	c := withMethods(method, other)
	c.Ifaces, c.Fields = []string{"x", "y"}, []api.Field{{Name: "f", Desc: "I"}}
	b, want := told(c)
	// There is room behind: what lies there must stay.
	room := append(slices.Clone(b), "room behind"...)
	handed := room[:len(b)]
	first, e := file.Parse(handed)
	second, _ := file.Parse(handed)
	if e != api.OK || string(room[len(b):]) != "room behind" || !slices.Equal(handed, b) {
		t.Fatalf("%v, % x", e, room)
	}
	clear(room)
	if !same(first, want) {
		t.Fatalf("%+v changes with what was handed in", first)
	}
	scribble(first)
	if !same(second, want) {
		t.Fatalf("%+v changes with another answer", second)
	}
	// Within one answer too: one method is written over, and grown, the other one must stay.
	scribbleMethod(&second.Methods[0])
	if !sameMethod(second.Methods[1], want.Methods[1]) || !slices.Equal(second.Pool, want.Pool) {
		t.Fatalf("%+v changes with the method ahead of it", second.Methods[1])
	}
	f := second.Methods[1].Frames
	_ = append(f[0].Locals, "[I")
	_ = append(f[0].Stack, "[I")
	f[0].Locals[0] = "[I"
	if !sameFrame(f[1], frame) {
		t.Fatalf("%+v changes with the frame ahead of it", f[1])
	}
}

// scribble writes over all lists of a class.
func scribble(c api.Class) {
	clear(c.Pool)
	clear(c.Ifaces)
	clear(c.Fields)
	for i := range c.Methods {
		scribbleMethod(&c.Methods[i])
	}
	clear(c.Methods)
}

// scribbleMethod writes over a method's lists, and into the room behind them.
func scribbleMethod(m *api.Method) {
	for _, f := range m.Frames {
		clear(f.Locals[:cap(f.Locals)])
		clear(f.Stack[:cap(f.Stack)])
	}
	clear(m.Code[:cap(m.Code)])
	clear(m.Rows[:cap(m.Rows)])
	clear(m.Frames[:cap(m.Frames)])
}
