package check_test

import (
	"slices"
	"strconv"
	"strings"
	"testing"

	"reglet/api"
	"reglet/check"
	"reglet/code"
	"reglet/kin"
)

// The flags and errors by their numbers: api's names could be changed with the program.
const (
	staticFlag     = 8
	interfaceFlag  = 0x200
	abstractFlag   = 0x400
	interfaceFlags = interfaceFlag + abstractFlag

	argError    = api.Errno(1)
	longError   = api.Errno(2)
	constError  = api.Errno(12)
	descError   = api.Errno(21)
	codeError   = api.Errno(40)
	placeError  = api.Errno(41)
	kinError    = api.Errno(50)
	frameError  = api.Errno(60)
	stackError  = api.Errno(61)
	typeError   = api.Errno(62)
	memberError = api.Errno(70)
)

// twentyInts are as many parameters as a method may have.
var twentyInts = strings.Repeat("I", 20)

// family: b and ab stand below a, d below b; a is an i, b a j too, which is an i; e2 stands below e, an Exception. There is no z.
func family() []api.Class {
	return []api.Class{
		{Name: "i", Super: "Object", Flags: interfaceFlags,
			Fields:  []api.Field{{Flags: staticFlag, Name: "si", Desc: "I"}},
			Methods: []api.Method{{Flags: abstractFlag, Name: "h", Desc: "()V"}, {Flags: abstractFlag, Name: "only", Desc: "()I"}}},
		{Name: "j", Super: "Object", Flags: interfaceFlags, Ifaces: []string{"i"},
			Methods: []api.Method{{Flags: abstractFlag, Name: "k", Desc: "(ILi;)J"}, {Flags: abstractFlag, Name: "uk", Desc: "(Lz;)V"}, {Flags: staticFlag, Name: "sk", Desc: "()V"}}},
		{Name: "a", Super: "Object", Ifaces: []string{"i"},
			Fields: []api.Field{
				{Name: "x", Desc: "I"}, {Name: "l", Desc: "J"}, {Name: "r", Desc: "La;"}, {Name: "n", Desc: "[I"}, {Name: "u", Desc: "Lz;"}, {Name: "v", Desc: "V"},
				{Flags: staticFlag, Name: "sx", Desc: "I"}, {Flags: staticFlag, Name: "sl", Desc: "J"}, {Flags: staticFlag, Name: "sr", Desc: "La;"}, {Flags: staticFlag, Name: "su", Desc: "[Lz;"},
			},
			Methods: []api.Method{
				{Name: "f", Desc: "()V"}, {Name: "h", Desc: "()V"}, {Name: "give", Desc: "(IJLa;)I"}, {Name: "long", Desc: "()J"}, {Name: "refs", Desc: "([I)[La;"},
				{Name: "uf", Desc: "(ILz;J)V"}, {Name: "ug", Desc: "()Lz;"}, {Name: "odd", Desc: "(I"}, {Name: "many", Desc: "(" + twentyInts + ")V"}, {Name: "nearly", Desc: "(" + twentyInts[1:] + ")V"},
				{Flags: staticFlag, Name: "sf", Desc: "(IJ)I"}, {Flags: staticFlag, Name: "sv", Desc: "()V"}, {Flags: staticFlag, Name: "suf", Desc: "(Lz;)V"}, {Flags: staticFlag, Name: "sug", Desc: "()Lz;"}, {Flags: staticFlag, Name: "sodd", Desc: ""},
			}},
		{Name: "ab", Super: "a", Flags: abstractFlag,
			Methods: []api.Method{{Flags: abstractFlag, Name: "q", Desc: "()V"}, {Name: "p", Desc: "()V"}, {Flags: staticFlag, Name: "sp", Desc: "()V"}}},
		{Name: "b", Super: "a", Ifaces: []string{"j"},
			Fields:  []api.Field{{Name: "x", Desc: "J"}, {Name: "own", Desc: "Lb;"}},
			Methods: []api.Method{{Name: "f", Desc: "()V"}, {Name: "mine", Desc: "()V"}, {Flags: abstractFlag, Name: "lack", Desc: "()V"}}},
		{Name: "d", Super: "b"},
		// No file holds an interface that isn't abstract; but a value may.
		{Name: "io", Super: "Object", Flags: interfaceFlag, Methods: []api.Method{{Name: "h", Desc: "()V"}}},
		{Name: "e", Super: "Exception"},
		{Name: "e2", Super: "e"},
	}
}

// familyTree is made once a test binary: trees aren't changed.
var familyTree = func() *kin.Tree {
	tree, e := kin.New(family())
	if e != api.OK {
		panic(e)
	}
	return tree
}()

// A subject is a method and its class, as they are handed in.
type subject struct {
	class  api.Class
	method api.Method
}

// of is a method of class b.
func of(flags int, d string, stack, locals int, text string, frames ...api.Frame) subject {
	s := subject{class: api.Class{Name: "b", Super: "a", Ifaces: []string{"j"}, Pool: []api.Const{{}}}}
	s.method = api.Method{Flags: flags, Name: "m", Desc: d, Stack: stack, Locals: locals, Frames: frames}
	s.method.Code = s.assembled(text)
	return s
}

// static is one that is static.
func static(d string, stack, locals int, text string, frames ...api.Frame) subject {
	return of(staticFlag, d, stack, locals, text, frames...)
}

// rows is the subject with these rows.
func (s subject) rows(rows ...api.Row) subject {
	s.method.Rows = rows
	return s
}

// with is the subject with something about it changed.
func (s subject) with(change func(s *subject)) subject {
	s.class.Pool = slices.Clone(s.class.Pool)
	s.method.Code = slices.Clone(s.method.Code)
	s.method.Rows = slices.Clone(s.method.Rows)
	s.method.Frames = slices.Clone(s.method.Frames)
	change(&s)
	return s
}

// frame is one at a place: types are told as in a state's text.
func frame(place int, text string) api.Frame {
	locals, stack, _ := strings.Cut(text, "|")
	return api.Frame{Pc: place, Locals: types(locals), Stack: types(stack)}
}

// types are those between commas; none of an empty text.
func types(text string) []string {
	if text == "" {
		return nil
	}
	return strings.Split(text, ",")
}

// assembled are the bytes of instructions, told by their numbers, between commas: what is behind a code is a number, a place (@), a constant's number (#) or a constant by its kind, which is put into the pool then.
func (s *subject) assembled(text string) []byte {
	var ops []api.Op
	at := 0
	for part := range strings.SplitSeq(text, ",") {
		words := strings.Fields(part)
		op := api.Op{Pc: at, Code: numberIn(words[0])}
		if len(words) > 1 {
			op.A = s.operand(words[1])
		}
		if len(words) > 2 {
			op.B = numberIn(words[2])
		}
		ops = append(ops, op)
		at += code.Size(op.Code)
	}
	b, e := code.Encode(ops)
	if e != api.OK {
		panic(text)
	}
	return b
}

func itoa(n int) string { return strconv.Itoa(n) }

func numberIn(word string) int {
	n, err := strconv.Atoi(word)
	if err != nil {
		panic(word)
	}
	return n
}

func (s *subject) operand(word string) int {
	if rest, is := strings.CutPrefix(word, "@"); is {
		return numberIn(rest)
	}
	if rest, is := strings.CutPrefix(word, "#"); is {
		return numberIn(rest)
	}
	if kind, rest, is := strings.Cut(word, ":"); is {
		return s.number(constant(kind, rest))
	}
	return numberIn(word)
}

// number is a constant's in the pool.
func (s *subject) number(c api.Const) int {
	if at := slices.Index(s.class.Pool, c); at > 0 {
		return at
	}
	s.class.Pool = append(s.class.Pool, c)
	return len(s.class.Pool) - 1
}

// constant is one of a kind: what it has is told as 5, hi, a, a.x:I or a.f:()V.
func constant(kind, rest string) api.Const {
	kinds := map[string]int{"text": 1, "int": 3, "long": 5, "class": 7, "string": 8, "field": 9, "method": 10, "iface": 11}
	c := api.Const{Kind: kinds[kind], Text: rest}
	switch c.Kind {
	case 3, 5:
		n, err := strconv.ParseInt(rest, 10, 64)
		if err != nil {
			panic(rest)
		}
		c.Num, c.Text = n, ""
	case 9, 10, 11:
		class, member, _ := strings.Cut(rest, ".")
		c.Text = class
		c.Name, c.Desc, _ = strings.Cut(member, ":")
	case 0:
		panic(kind)
	}
	return c
}

// told is a state as a text: its locals, and its stack behind a line.
func told(s check.State) string {
	return strings.Join(s.Locals, ",") + "|" + strings.Join(s.Stack, ",")
}

func allTold(states []check.State) []string {
	var texts []string
	for _, s := range states {
		texts = append(texts, told(s))
	}
	return texts
}

// checkStates: the method is taken, with these states.
func checkStates(t *testing.T, s subject, want ...string) {
	t.Helper()
	states, e := check.Method(familyTree, s.class, s.method)
	if e != api.OK || !slices.Equal(allTold(states), want) {
		t.Errorf("%+v of %+v: %q, %v, want %q", s.method, s.class, allTold(states), e, want)
	}
	checkReference(t, familyTree, s)
}

// checkTaken: the method is taken.
func checkTaken(t *testing.T, s subject) {
	t.Helper()
	if states, e := check.Method(familyTree, s.class, s.method); e != api.OK || len(states) == 0 {
		t.Errorf("%+v of %+v: %q, %v", s.method, s.class, allTold(states), e)
	}
	checkReference(t, familyTree, s)
}

// checkFault: the method isn't taken, for that reason.
func checkFault(t *testing.T, want api.Errno, s subject) {
	t.Helper()
	if states, e := check.Method(familyTree, s.class, s.method); e != want || len(states) != 0 {
		t.Errorf("%+v of %+v: %q, %v, want %v", s.method, s.class, allTold(states), e, want)
	}
	checkReference(t, familyTree, s)
}
