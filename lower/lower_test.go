package lower_test

import (
	"math"
	"reflect"
	"testing"

	"reglet/api"
	"reglet/link"
	"reglet/lower"
)

func TestExampleOfTheChapter(t *testing.T) {
	p := linked(t, class("a").with("static f ()I", "8, 172"))
	f := p.funcs[p.id("a.f()I")]
	five, end := f.Code[0], f.Code[1]
	if len(f.Code) != 2 || five.Op != 1 || five.Num != 5 || end.Op != 30 || end.A != five.Dst || f.Ret != 1 || len(f.Params) != 0 || len(f.Rows) != 0 {
		t.Errorf("%+v", f)
	}
	p.ends(t, "a.f()I", nil, "returns 5")
}

// TestNoMethod: numbers that none has, methods without code, worlds that are none.
func TestNoMethod(t *testing.T) {
	p := linked(t,
		class("interface i").without("abstract h ()V"),
		class("abstract a").without("abstract g ()V").with("static f ()I", "8, 172"),
	)
	for _, id := range []int{-1, -2, p.world.Methods(), p.world.Methods() + 1, math.MinInt, math.MaxInt, -1 << 32, 1 << 32, 1<<32 + p.id("a.f()I")} {
		checkNone(t, p.world, id)
	}
	for _, method := range []string{"i.h()V", "a.g()V", "Sys.print(I)V", "Sys.print(J)V", "Sys.print(LString;)V", "Sys.exit(I)V", "String.length()I", "String.charAt(I)I"} {
		checkNone(t, p.world, p.id(method))
	}
	if len(p.funcs) != 1 || p.world.Methods() != 9 {
		t.Errorf("%d functions of %d methods", len(p.funcs), p.world.Methods())
	}
	bare, e := link.New(nil)
	if e != api.OK {
		t.Fatal(e)
	}
	for id := -1; id <= bare.Methods(); id++ {
		checkNone(t, bare, id)
		checkNone(t, nil, id)
		checkNone(t, &link.World{}, id)
	}
}

// TestParams: an argument of each kind at each place, the object ahead.
func TestParams(t *testing.T) {
	c := class("a: static s J")
	c.with("static f (IJLa;)I", "21 0, 172").with("static g (JILa;[I)J", "22 0, 173").with("static h (La;)La;", "25 0, 176").with("static k ()V", "177")
	c.with("f (IJ)I", "21 1, 172").with("g (JI)J", "22 1, 173").with("h ([[J)[[J", "25 1, 176").with("own ()La;", "25 0, 176").with("k ()V", "177")
	c.with("static last (IIIIIIIIIIIIIIIIIIIJ)J 1/20", "22 19, 173").with("last (JJJJJJJJJJJJJJJJJJJI)I 1/21", "21 20, 172")
	p := linked(t, c)
	object := func(m *machine) any { return m.object("me", "a") }
	array := func(m *machine) any { return m.array("it", "[J", 0) }
	p.ends(t, "a.f(IJLa;)I", with(7, int64(8), object), "returns 7")
	p.ends(t, "a.g(JILa;[I)J", with(int64(8), 7, object, nil), "returns 8L")
	p.ends(t, "a.h(La;)La;", with(object), "returns me")
	p.ends(t, "a.h(La;)La;", with(nil), "returns nothing")
	p.ends(t, "a.k()V", nil, "returns")
	p.ends(t, "a.f(IJ)I", with(object, 7, int64(8)), "returns 7")
	p.ends(t, "a.g(JI)J", with(object, int64(8), 7), "returns 8L")
	p.ends(t, "a.h([[J)[[J", with(object, array), "returns it")
	p.ends(t, "a.own()La;", with(object), "returns me")
	var ints, longs []argument
	for i := range 19 {
		ints, longs = append(ints, i), append(longs, int64(i))
	}
	p.ends(t, "a.last(IIIIIIIIIIIIIIIIIIIJ)J", append(ints, int64(77)), "returns 77L")
	p.ends(t, "a.last(JJJJJJJJJJJJJJJJJJJI)I", append(append(with(object), longs...), 77), "returns 77")
}

// TestTwoOfOneName: each has its own number, and so its own code.
func TestTwoOfOneName(t *testing.T) {
	w, e := link.New([]api.Class{class("a").with("static f ()I", "8, 172").with("static f ()I", "7, 172").class})
	if e != api.OK {
		t.Fatal(e)
	}
	first := w.Find("a", "f", "()I")
	for i, want := range []int64{5, 4} {
		if f, e := lower.Method(w, first+i); e != api.OK || f.Code[0].Num != want {
			t.Errorf("%+v, %v", f, e)
		}
	}
}

// TestUnneededFields: what an instruction doesn't need is zero.
func TestUnneededFields(t *testing.T) {
	p := linked(t, class("a: x I").with("static f (La;[II)V", "0, 25 0, 87, 25 1, 21 2, 21 2, 79, 177"))
	for _, x := range p.funcs[p.id("a.f(La;[II)V")].Code {
		want := api.Ins{Op: x.Op}
		switch x.Op {
		case 4:
			want.Dst, want.A = x.Dst, x.A
		case 8:
			want.A = x.A
		case 9:
			want.A, want.B = x.A, x.B
		case 14:
			want.A, want.B, want.C = x.A, x.B, x.C
		case 30:
			want.A = -1
		}
		if !reflect.DeepEqual(x, want) {
			t.Errorf("%+v, want %+v", x, want)
		}
	}
}
