package file_test

import (
	"encoding/binary"
	"slices"
	"testing"

	"reglet/api"
	"reglet/file"
)

// two is a number of two bytes.
func two(n int) []byte { return binary.BigEndian.AppendUint16(nil, uint16(n)) }

// one is a number of one byte.
func one(n int) []byte { return []byte{byte(n)} }

// A teller lays classes out as their files: the constants that are wanted, and behind them the rest.
type teller struct {
	consts []api.Const
	pool   []byte
	rest   []byte
	// always a new constant, where one that is there would do
	fresh bool
}

// constant is the number of that constant, which these bytes tell.
func (w *teller) constant(c api.Const, told ...[]byte) int {
	if i := slices.Index(w.consts, c); i >= 0 && !w.fresh {
		return i + 1
	}
	w.consts = append(w.consts, c)
	w.pool = append(append(w.pool, byte(c.Kind)), slices.Concat(told...)...)
	return len(w.consts)
}

// text and class are the numbers of such constants.
func (w *teller) text(s string) int {
	return w.constant(api.Const{Kind: api.ConstText, Text: s}, two(len(s)), []byte(s))
}

func (w *teller) class(s string) int {
	return w.constant(api.Const{Kind: api.ConstClass, Text: s}, two(w.text(s)))
}

// add lays bytes behind the rest.
func (w *teller) add(told ...[]byte) { w.rest = append(w.rest, slices.Concat(told...)...) }

// addClass lays out what stands behind the pool.
func (w *teller) addClass(c api.Class) {
	w.add(two(c.Flags), two(w.class(c.Name)), two(w.class(c.Super)), two(len(c.Ifaces)))
	for _, s := range c.Ifaces {
		w.add(two(w.class(s)))
	}
	w.add(two(len(c.Fields)))
	for _, f := range c.Fields {
		w.add(two(f.Flags), two(w.text(f.Name)), two(w.text(f.Desc)))
	}
	w.add(two(len(c.Methods)))
	for _, m := range c.Methods {
		w.add(two(m.Flags), two(w.text(m.Name)), two(w.text(m.Desc)))
		if m.Flags&0x400 == 0 {
			w.addBody(m)
		}
	}
}

func (w *teller) addBody(m api.Method) {
	w.add(two(m.Stack), two(m.Locals), two(len(m.Code)), m.Code, two(len(m.Rows)))
	for _, r := range m.Rows {
		caught := 0
		if r.Class != "" {
			caught = w.class(r.Class)
		}
		w.add(two(r.From), two(r.To), two(r.At), two(caught))
	}
	w.add(two(len(m.Frames)))
	for _, f := range m.Frames {
		w.add(two(f.Pc))
		w.addTypes(f.Locals)
		w.addTypes(f.Stack)
	}
}

func (w *teller) addTypes(types []string) {
	w.add(one(len(types)))
	for _, s := range types {
		switch {
		case s == "":
			w.add(one(0))
		case s == "I":
			w.add(one(1))
		case s == "J":
			w.add(one(2))
		case s == "N":
			w.add(one(3))
		case s[0] == '[':
			w.add(one(4), two(w.class(s)))
		default:
			w.add(one(4), two(w.class(s[1:len(s)-1])))
		}
	}
}

// told is the file, and the constants as they must be answered.
func (w *teller) told() ([]byte, []api.Const) {
	b := slices.Concat([]byte("REGL"), two(len(w.consts)+1), w.pool, w.rest)
	return b, append([]api.Const{{}}, w.consts...)
}

// told is the file of a class, and the class as it must be answered. The class may be one that must be refused.
func told(c api.Class) ([]byte, api.Class) {
	var w teller
	w.addClass(c)
	b, consts := w.told()
	c.Pool = consts
	return b, c
}

// same holds two classes against each other, list by list: an empty one and none are the same.
func same(a, b api.Class) bool {
	return a.Flags == b.Flags && a.Name == b.Name && a.Super == b.Super &&
		slices.Equal(a.Ifaces, b.Ifaces) && slices.Equal(a.Pool, b.Pool) && slices.Equal(a.Fields, b.Fields) &&
		slices.EqualFunc(a.Methods, b.Methods, sameMethod)
}

func sameMethod(a, b api.Method) bool {
	return a.Flags == b.Flags && a.Name == b.Name && a.Desc == b.Desc && a.Stack == b.Stack && a.Locals == b.Locals &&
		slices.Equal(a.Code, b.Code) && slices.Equal(a.Rows, b.Rows) && slices.EqualFunc(a.Frames, b.Frames, sameFrame)
}

func sameFrame(a, b api.Frame) bool {
	return a.Pc == b.Pc && slices.Equal(a.Locals, b.Locals) && slices.Equal(a.Stack, b.Stack)
}

// checkParse holds Parse against what is wanted. An error's class is the zero one.
func checkParse(t *testing.T, b []byte, want api.Class, wantError api.Errno) {
	t.Helper()
	before := slices.Clone(b)
	got, e := file.Parse(b)
	if e != wantError || !same(got, want) {
		t.Fatalf("Parse(% x) = %+v, %v, want %+v, %v", b, got, e, want, wantError)
	}
	if !slices.Equal(b, before) {
		t.Fatalf("Parse changes % x to % x", before, b)
	}
	checkLimits(t, got)
}

// checkTaken tells a class and parses it.
func checkTaken(t *testing.T, c api.Class) {
	t.Helper()
	b, want := told(c)
	checkParse(t, b, want, api.OK)
}

// checkRefused tells a class that must be refused.
func checkRefused(t *testing.T, c api.Class, want api.Errno) {
	t.Helper()
	b, _ := told(c)
	checkParse(t, b, api.Class{}, want)
}

// checkFault parses bytes that must be refused.
func checkFault(t *testing.T, b []byte, want api.Errno) {
	t.Helper()
	checkParse(t, b, api.Class{}, want)
}

// checkLimits holds a class that was answered against the limits (P4.2).
func checkLimits(t *testing.T, c api.Class) {
	t.Helper()
	atMost := func(what string, n, most int) {
		t.Helper()
		if n > most {
			t.Fatalf("%d %s are taken: %+v", n, what, c)
		}
	}
	atMost("constants", len(c.Pool), 1000)
	atMost("interfaces", len(c.Ifaces), 8)
	atMost("fields", len(c.Fields), 60)
	atMost("methods", len(c.Methods), 60)
	for _, name := range append([]string{c.Name, c.Super}, c.Ifaces...) {
		atMost("bytes of a class's name", len(name), 60)
	}
	for _, f := range c.Fields {
		atMost("bytes of a field's name", len(f.Name), 60)
	}
	for _, m := range c.Methods {
		atMost("bytes of a method's name", len(m.Name), 60)
		atMost("places of the stack", m.Stack, 20)
		atMost("locals", m.Locals, 40)
		atMost("bytes of code", len(m.Code), 4000)
		atMost("rows", len(m.Rows), 60)
		atMost("frames", len(m.Frames), 4000)
		for _, f := range m.Frames {
			atMost("locals of a frame", len(f.Locals), 40)
			atMost("places of a frame's stack", len(f.Stack), 20)
		}
	}
}
