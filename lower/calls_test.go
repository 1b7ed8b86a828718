package lower_test

import (
	"fmt"
	"math"
	"strings"
	"testing"
)

// callers: a has slots that b, below it, fills anew, or doesn't; both have the interface i.
func callers() []*told {
	return []*told{
		class("interface j").without("abstract own ()J"),
		class("interface i < Object j").without("abstract f ()V").without("abstract give (IJLa;)I").without("abstract self ()La;"),
		class("abstract c < Object i").without("abstract bare ()I"),
		class("a < c: x I, static s I").
			with("f ()V", "4, 184 method:Sys.print:(I)V, 177").
			with("give (IJLa;)I", "21 1, 184 method:Sys.print:(I)V, 22 2, 184 method:Sys.print:(J)V, 25 3, 179 field:z.r:La;, 21 1, 4, 96, 172").
			with("self ()La;", "25 0, 176").
			with("own ()J", "10, 173").
			with("bare ()I", "6, 172").
			with("kept ()I", "16 11, 172").
			with("static sf (IJ)J", "22 1, 21 0, 133, 101, 173").
			with("static sv ()V", "8, 184 method:Sys.print:(I)V, 177"),
		class("b < a").
			with("f ()V", "5, 184 method:Sys.print:(I)V, 177").
			with("give (IJLa;)I", "21 1, 5, 100, 172").
			with("own ()J", "19 long:2, 173").
			// What is called so is its parent's, though it has its own, or doesn't.
			with("up ()I", "25 0, 183 method:a.f:()V, 25 0, 3, 9, 1, 183 method:a.give:(IJLa;)I, 172").
			with("upKept ()I", "25 0, 183 method:b.kept:()I, 172").
			with("upOwn ()J", "25 0, 183 method:b.own:()J, 173").
			with("upNone ()J", "1, 183 method:b.own:()J, 173").
			with("upNoneGive ()I", "1, 3, 9, 1, 183 method:a.give:(IJLa;)I, 172"),
		class("z: static r La;").
			with("static virtual (La;)V", "25 0, 182 method:a.f:()V, 177").
			with("static virtualBelow (Lb;)V", "25 0, 182 method:b.f:()V, 177").
			with("static virtualAbove (Lc;)J", "25 0, 182 method:c.own:()J, 173").
			with("static bare (Lc;)I", "25 0, 182 method:c.bare:()I, 172").
			with("static kept (Lb;)I", "25 0, 182 method:b.kept:()I, 172").
			with("static give (La;IJ)I", "25 0, 21 1, 22 2, 25 0, 182 method:a.give:(IJLa;)I, 172").
			with("static self (La;)La;", "25 0, 182 method:a.self:()La;, 176").
			with("static iface (Li;)V", "25 0, 185 iface:i.f:()V, 177").
			with("static ifaceAbove (Li;)J", "25 0, 185 iface:i.own:()J, 173").
			with("static ifaceOwn (Lj;)J", "25 0, 185 iface:j.own:()J, 173").
			with("static ifaceGive (Li;IJ)I", "25 0, 21 1, 22 2, 1, 185 iface:i.give:(IJLa;)I, 172").
			with("static ifaceSelf (Li;)La;", "25 0, 185 iface:i.self:()La;, 176").
			with("static just (Lb;)I", "25 0, 182 method:b.up:()I, 172").
			with("static justKept (Lb;)I", "25 0, 182 method:b.upKept:()I, 172").
			with("static justOwn (Lb;)J", "25 0, 182 method:b.upOwn:()J, 173").
			with("static justNone (Lb;)J", "25 0, 182 method:b.upNone:()J, 173").
			with("static justNoneGive (Lb;)I", "25 0, 182 method:b.upNoneGive:()I, 172").
			with("static plain (IJ)J", "21 0, 22 1, 184 method:a.sf:(IJ)J, 173").
			with("static plainBelow (IJ)J", "21 0, 22 1, 184 method:b.sf:(IJ)J, 173").
			with("static plainNone ()V", "184 method:b.sv:()V, 177").
			// What is given back lies above what was there.
			with("static above (La;)J", "16 100, 133, 25 0, 182 method:a.own:()J, 97, 173").
			with("static within (La;)I 12/1", "25 0, 25 0, 25 0, 7, 9, 25 0, 182 method:a.give:(IJLa;)I, 10, 25 0, 182 method:a.give:(IJLa;)I, 9, 1, 182 method:a.give:(IJLa;)I, 172"),
	}
}

// one is a function that makes an object of a class.
func one(class string) func(*machine) any {
	return func(m *machine) any { return m.object("it", class) }
}

func TestCalls(t *testing.T) {
	p := linked(t, callers()...)
	both := func(method, end string, otherEnd string, said, otherSaid string, args ...argument) {
		t.Helper()
		done := func(said string) []string {
			if said == "" {
				return nil
			}
			return strings.Split(said, "; ")
		}
		p.ends(t, method, append(with(one("a")), args...), end, done(said)...)
		p.ends(t, method, append(with(one("b")), args...), otherEnd, done(otherSaid)...)
		p.ends(t, method, append(with(nil), args...), "throws NullFault", "throws NullFault")
	}
	both("z.virtual(La;)V", "returns", "returns", "says 1", "says 2")
	both("z.virtualAbove(Lc;)J", "returns 1L", "returns 2L", "", "")
	both("z.bare(Lc;)I", "returns 3", "returns 3", "", "")
	both("z.give(La;IJ)I", "returns 8", "returns 5", "says 7; says -9; static 1 is it", "", 7, int64(-9))
	both("z.self(La;)La;", "returns it", "returns it", "", "")
	both("z.iface(Li;)V", "returns", "returns", "says 1", "says 2")
	both("z.ifaceAbove(Li;)J", "returns 1L", "returns 2L", "", "")
	both("z.ifaceOwn(Lj;)J", "returns 1L", "returns 2L", "", "")
	both("z.ifaceGive(Li;IJ)I", "returns 8", "returns 5", "says 7; says -9; static 1 is nothing", "", 7, int64(-9))
	both("z.ifaceSelf(Li;)La;", "returns it", "returns it", "", "")
	both("z.above(La;)J", "returns 101L", "returns 102L", "", "")
	p.ends(t, "z.virtualBelow(Lb;)V", with(one("b")), "returns", "says 2")
	p.ends(t, "z.kept(Lb;)I", with(one("b")), "returns 11")
	p.ends(t, "z.just(Lb;)I", with(one("b")), "returns 1", "says 1", "says 0", "says 0", "static 1 is nothing")
	p.ends(t, "z.justKept(Lb;)I", with(one("b")), "returns 11")
	p.ends(t, "z.justOwn(Lb;)J", with(one("b")), "returns 2L")
	p.ends(t, "z.justNone(Lb;)J", with(one("b")), "throws NullFault")
	p.ends(t, "z.justNoneGive(Lb;)I", with(one("b")), "throws NullFault", "throws NullFault")
	p.ends(t, "z.plain(IJ)J", with(3, int64(10)), "returns 7L")
	p.ends(t, "z.plainBelow(IJ)J", with(math.MinInt32, int64(0)), "returns 2147483648L")
	p.ends(t, "z.plainNone()V", nil, "returns", "says 5")
}

// TestOrderOfCalls: that the object is nothing is asked ahead of whether one more call may be under way; and calls whose arguments others gave back.
func TestOrderOfCalls(t *testing.T) {
	p := linked(t, callers()...)
	p.endsBy(t, setting{fuel: 100, depth: 1}, "z.give(La;IJ)I", with(nil, 1, int64(1)), "throws NullFault", "throws NullFault")
	p.endsBy(t, setting{fuel: 100, depth: 1}, "z.give(La;IJ)I", with(one("a"), 1, int64(1)), "throws DepthFault", "throws DepthFault")
	// a: 4, 0, it gives 5; 5, 1, it gives 6; 6, 0, nothing gives 7. Of b each gives two less.
	p.ends(t, "z.within(La;)I", with(one("a")), "returns 7", "says 4", "says 0", "static 1 is it", "says 5", "says 1", "static 1 is it", "says 6", "says 0", "static 1 is nothing")
	p.ends(t, "z.within(La;)I", with(one("b")), "returns -2")
	p.ends(t, "z.within(La;)I", with(nil), "throws NullFault")
}

func TestOwnMethods(t *testing.T) {
	p := linked(t, class("a").
		with("static printInt (I)V", "21 0, 184 method:Sys.print:(I)V, 177").
		with("static printLong (J)V", "22 0, 184 method:Sys.print:(J)V, 177").
		with("static printText (LString;)V", "25 0, 184 method:Sys.print:(LString;)V, 177").
		with("static exit (I)V", "21 0, 184 method:Sys.exit:(I)V, 3, 184 method:Sys.print:(I)V, 177").
		with("static length (LString;)I", "25 0, 182 method:String.length:()I, 172").
		with("static charAt (LString;I)I", "25 0, 21 1, 182 method:String.charAt:(I)I, 172").
		// A method of the same name and descriptor is another one.
		with("length ()I", "8, 172").
		with("static own (La;)I", "25 0, 182 method:a.length:()I, 172").
		with("static print (I)V", "177").
		with("static ownPrint ()V", "3, 184 method:a.print:(I)V, 177").
		with("static all (LString;)I 5/3", "3, 54 1, again: 21 1, 25 0, 182 method:String.length:()I, 162 @done, 25 0, 21 1, 182 method:String.charAt:(I)I, 184 method:Sys.print:(I)V, 132 1 1, 167 @again, done: 21 1, 172", "frame again LString;,I|", "frame done LString;,I|"))
	text := func(s string) func(m *machine) any { return func(m *machine) any { return m.string(s) } }
	for _, n := range someInts {
		p.ends(t, "a.printInt(I)V", with(n), "returns", fmt.Sprint("says ", n))
		p.ends(t, "a.exit(I)V", with(n), fmt.Sprint("exits ", n))
	}
	for _, n := range someLongs {
		p.ends(t, "a.printLong(J)V", with(n), "returns", fmt.Sprint("says ", n))
	}
	for _, s := range []string{"", "hi", "\x00\xff"} {
		p.ends(t, "a.printText(LString;)V", with(text(s)), "returns", "says "+s)
		p.ends(t, "a.length(LString;)I", with(text(s)), fmt.Sprint("returns ", len(s)))
		for i := range s {
			p.ends(t, "a.charAt(LString;I)I", with(text(s), i), fmt.Sprint("returns ", s[i]))
		}
		for _, i := range []int{-1, len(s), math.MaxInt32, math.MinInt32} {
			p.ends(t, "a.charAt(LString;I)I", with(text(s), i), "throws BoundsFault")
			p.ends(t, "a.charAt(LString;I)I", with(nil, i), "throws NullFault")
		}
	}
	p.ends(t, "a.printText(LString;)V", with(nil), "throws NullFault", "throws NullFault")
	p.ends(t, "a.length(LString;)I", with(nil), "throws NullFault")
	p.ends(t, "a.own(La;)I", with(one("a")), "returns 5")
	p.ends(t, "a.ownPrint()V", nil, "returns")
	p.ends(t, "a.all(LString;)I", with(text("abc")), "returns 3", "says 97", "says 98", "says 99")
	// They count for no call that is under way.
	p.endsBy(t, setting{fuel: 100, depth: 1}, "a.printInt(I)V", with(4), "returns", "says 4")
	p.endsBy(t, setting{fuel: 100, depth: 1}, "a.length(LString;)I", with(text("hi")), "returns 2")
	p.endsBy(t, setting{fuel: 100, depth: 1}, "a.own(La;)I", with(one("a")), "throws DepthFault")
}

// TestCallsWithinCalls: down, and down in two branches, until as many are under way as may be.
func TestCallsWithinCalls(t *testing.T) {
	p := linked(t, class("a").
		with("static down (I)I", "21 0, 153 @done, 21 0, 21 0, 4, 100, 184 method:a.down:(I)I, 96, 172, done: 3, 172", "frame done I|").
		with("static fib (I)J", "21 0, 5, 161 @done, 21 0, 4, 100, 184 method:a.fib:(I)J, 21 0, 5, 100, 184 method:a.fib:(I)J, 97, 173, done: 21 0, 133, 173", "frame done I|").
		with("static ever ()V", "184 method:a.ever:()V, 177").
		with("turn (I)I", "21 1, 153 @done, 25 0, 21 1, 4, 100, 182 method:a.back:(I)I, 4, 96, 172, done: 3, 172", "frame done La;,I|").
		with("back (I)I", "25 0, 21 1, 182 method:a.turn:(I)I, 4, 96, 172").
		with("static start (I)I", "187 class:a, 21 0, 182 method:a.turn:(I)I, 172"))
	p.ends(t, "a.down(I)I", with(40), "returns 820")
	p.ends(t, "a.fib(I)J", with(12), "returns 144L")
	p.ends(t, "a.ever()V", nil, "throws DepthFault", "throws DepthFault")
	p.ends(t, "a.start(I)I", with(20), "returns 40")
	for depth := 1; depth < 7; depth++ {
		s := setting{fuel: 1000, depth: depth}
		end := "throws DepthFault"
		if depth >= 5 {
			end = "returns 10"
		}
		p.endsBy(t, s, "a.down(I)I", with(4), end)
		p.endsBy(t, s, "a.ever()V", nil, "throws DepthFault")
	}
}

// weighed is the code of a method that gives back the sum of its arguments, ints and longs in turn from a local on, each times the cube of its local's number.
func weighed(first, count int) string {
	text := "9"
	for n := first; n < first+count; n++ {
		load := fmt.Sprintf("21 %d, 133", n)
		if n%2 == 0 {
			load = fmt.Sprintf("22 %d", n)
		}
		text += fmt.Sprintf(", %s, 19 long:%d, 105, 97", load, n*n*n)
	}
	return text + ", 173"
}

// TestMostArguments: as many as a call may have, with and without an object, each where it belongs.
func TestMostArguments(t *testing.T) {
	intsAndLongs := strings.Repeat("IJ", 10)
	c := class("interface i").without("abstract f (" + intsAndLongs[:19] + ")J")
	d := class("a < Object i").with("f ("+intsAndLongs[:19]+")J 3/20", weighed(1, 19)).with("static g ("+strings.Repeat("JI", 10)+")J 3/20", weighed(0, 20))
	push := func(n int) string {
		if n%2 == 1 {
			return fmt.Sprintf("16 %d, ", n+50)
		}
		return fmt.Sprintf("19 long:%d, ", n+50)
	}
	args, sum := "", 0
	for n := 1; n <= 19; n++ {
		args += push(n)
		sum += (n + 50) * n * n * n
	}
	d.with("static virtual (La;)J 20/1", "25 0, "+args+"182 method:a.f:("+intsAndLongs[:19]+")J, 173")
	d.with("static iface (La;)J 20/1", "25 0, "+args+"185 iface:i.f:("+intsAndLongs[:19]+")J, 173")
	d.with("just ()J 20/1", "25 0, "+args+"183 method:a.f:("+intsAndLongs[:19]+")J, 173")
	d.with("static plain ()J 20/0", push(0)+args+"184 method:a.g:("+strings.Repeat("JI", 10)+")J, 173")
	p := linked(t, c, d)
	for _, method := range []string{"a.virtual(La;)J", "a.iface(La;)J", "a.just()J"} {
		p.ends(t, method, with(one("a")), fmt.Sprintf("returns %dL", sum))
	}
	p.ends(t, "a.plain()J", nil, fmt.Sprintf("returns %dL", sum))
}
