package lower_test

import (
	"bytes"
	"fmt"
	"strings"
	"testing"

	"reglet/api"
)

// mostBytes is how long code may be.
const mostBytes = 4000

// TestLongestCode: as long as it may be, of what a function has most instructions for.
func TestLongestCode(t *testing.T) {
	for _, try := range []struct {
		// What is done again and again, with 2 and 3 on the stack.
		again []byte
		// What lies uppermost at the end.
		want string
	}{
		{[]byte{0}, "3"}, {[]byte{95}, "2"}, {[]byte{90, 87, 95}, "3"}, {[]byte{8, 87}, "3"}, {[]byte{89, 108, 6, 104}, "3"},
		{[]byte{132, 0, 1, 0, 0}, "3"}, {[]byte{21, 0, 54, 0}, "3"}, {[]byte{25, 1, 3, 46, 87}, "3"}, {[]byte{25, 1, 89, 3, 4, 79, 87}, "3"},
	} {
		body := bytes.Repeat(try.again, (mostBytes-3)/len(try.again))
		code := append([]byte{5, 6}, body...)
		code = append(code, make([]byte, mostBytes-1-len(code))...)
		m := api.Method{Flags: staticFlag, Name: "f", Desc: "(I[I)I", Stack: 6, Locals: 2, Code: append(code, 172)}
		p := programOf(t, []api.Class{{Name: "a", Super: "Object", Methods: []api.Method{m}}})
		p.ends(t, "a.f(I[I)I", with(7, numbers("I", 5)), "returns "+try.want)
	}
}

// TestMostCatchers: each instruction throws what the one ahead has thrown; as values classes may have more rows than files.
func TestMostCatchers(t *testing.T) {
	m := api.Method{Flags: staticFlag, Name: "f", Desc: "(LThrowable;)V", Stack: 1, Locals: 1, Code: append([]byte{25, 0}, bytes.Repeat([]byte{191}, mostBytes-2)...)}
	for place := 3; place < mostBytes; place++ {
		m.Frames = append(m.Frames, api.Frame{Pc: place, Stack: []string{"LThrowable;"}})
		m.Rows = append(m.Rows, api.Row{From: place - 1, To: place, At: place})
	}
	p := programOf(t, []api.Class{{Name: "a", Super: "Object", Methods: []api.Method{m}}})
	o := p.same(t, wide, "a.f(LThrowable;)V", one("ZeroFault"))
	if o.end != "throws it" || len(o.done) != mostBytes-2 {
		t.Errorf("it %s, behind %d throws", o.end, len(o.done))
	}
}

// TestMostRows: they all lead to one place.
func TestMostRows(t *testing.T) {
	c := class("e < Exception").with("static f (LThrowable;)I", "try: 25 0, 191, catch: 193 class:e, 172", "frame catch |LThrowable;")
	m := &c.class.Methods[0]
	for range 15000 {
		m.Rows = append(m.Rows, api.Row{From: 0, To: 3, At: 3, Class: "DepthFault"})
	}
	m.Rows = append(m.Rows, api.Row{From: 0, To: 3, At: 3, Class: "Exception"})
	p := linked(t, c)
	p.ends(t, "e.f(LThrowable;)I", with(one("e")), "returns 1")
	p.ends(t, "e.f(LThrowable;)I", with(one("MemoryFault")), "throws it")
}

// TestMostPlaces: each kind in each local, and at each place of the stack, the greatest numbers of both; and few of both.
func TestMostPlaces(t *testing.T) {
	c := class("a: static i I, static j J, static r LObject;")
	push := []string{"", "8", "10", "1"}
	for _, size := range [][2]int{{20, 40}, {1, 1}, {1, 0}, {2, 0}, {0, 1}, {0, 0}, {3, 7}} {
		stack, locals := size[0], size[1]
		var l []string
		for kind := 1; kind <= 3; kind++ {
			if stack > 0 {
				for n := range locals {
					l = append(l, push[kind], fmt.Sprintf("%d %d", stores[kind], n), fmt.Sprintf("%d %d", loads[kind], n), "87")
				}
			}
			for range stack {
				l = append(l, push[kind])
			}
			if stack > 1 {
				l = append(l, "95")
			}
			for range stack {
				l = append(l, fmt.Sprintf("179 field:a.%s", []string{"", "i:I", "j:J", "r:LObject;"}[kind]))
			}
			if kind == 1 && stack > 0 {
				l = append(l, "3", fmt.Sprintf("153 @on%d_%d", stack, locals), fmt.Sprintf("on%d_%d: 0", stack, locals))
			}
		}
		c.with(fmt.Sprintf("static f%d_%d ()V %d/%d", stack, locals, stack, locals), strings.Join(append(l, "177"), ", "))
		m := &c.class.Methods[len(c.class.Methods)-1]
		m.Locals = locals
		if stack > 0 {
			m.Frames = []api.Frame{{Pc: bytes.IndexByte(m.Code, 153) + 3}}
		}
	}
	c.with("static count (I)I 1/1", "132 0 5, 21 0, 172")
	p := linked(t, c)
	for id := range p.funcs {
		p.sameOf(t, wide, id, with(7)[:len(p.funcs[id].Params)])
	}
	p.ends(t, "a.count(I)I", with(7), "returns 12")
}
