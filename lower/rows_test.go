package lower_test

import (
	"fmt"
	"testing"

	"reglet/api"
)

// catching are classes of throwables: e2 below e, an Exception; d is another one. throw throws what it is handed.
func catching() []*told {
	return []*told{
		class("e < Exception: n I"), class("e2 < e"), class("d < Throwable"),
		class("t").with("static throw (LThrowable;)V", "25 0, 191").with("static pass (LThrowable;)I", "25 0, 184 method:t.throw:(LThrowable;)V, 8, 172"),
	}
}

// TestFirstThatFits: of all rows about a place it is the first whose class the thing is of; by one of all, each; by none that fits the caller's call throws it.
func TestFirstThatFits(t *testing.T) {
	c := class("a")
	const text = "try: 25 0, 191, on: 2, 172, one: 87, 4, 172, two: 87, 5, 172, three: 87, 6, 172, four: 87, 7, 172"
	frames := []string{"frame on |", "frame one |Le;", "frame two |LException;", "frame three |LObject;", "frame four |LThrowable;"}
	for i, rows := range [][]string{
		{"row try on one e", "row try on two Exception", "row try on three"},
		{"row try on two Exception", "row try on one e", "row try on three"},
		{"row try on three", "row try on one e", "row try on two Exception"},
		{"row try on one e2", "row try on two e", "row try on four Throwable"},
		{"row try on one e2", "row try on two ZeroFault"},
		{"row try on one e", "row try on two e2", "row try on three ZeroFault", "row try on four d"},
		{},
	} {
		c.with(fmt.Sprintf("static f%d (LThrowable;)I", i), text, append(frames, rows...)...)
	}
	c.with("static outer (LThrowable;)I", "try: 25 0, 184 method:a.f4:(LThrowable;)I, then: 172, catch: 87, 16 9, 172", "frame catch |LThrowable;", "row try then catch")
	p := linked(t, append(catching(), c)...)
	for _, try := range []struct {
		class string
		// By the lists of rows: 0: none.
		caught [7]int
	}{
		{"e", [7]int{1, 2, 3, 2, 0, 1, 0}},
		{"e2", [7]int{1, 2, 3, 1, 1, 1, 0}},
		{"Exception", [7]int{2, 2, 3, 4, 0, 0, 0}},
		{"ZeroFault", [7]int{2, 2, 3, 4, 2, 3, 0}},
		{"d", [7]int{3, 3, 3, 4, 0, 4, 0}},
		{"Throwable", [7]int{3, 3, 3, 4, 0, 0, 0}},
		{"MemoryFault", [7]int{3, 3, 3, 4, 0, 0, 0}},
	} {
		for i, caught := range try.caught {
			end := fmt.Sprint("returns ", caught)
			if caught == 0 {
				end = "throws it"
			}
			p.ends(t, fmt.Sprintf("a.f%d(LThrowable;)I", i), with(one(try.class)), end, "throws it")
		}
		end := "returns 9"
		if n := try.caught[4]; n != 0 {
			end = fmt.Sprint("returns ", n)
		}
		p.ends(t, "a.outer(LThrowable;)I", with(one(try.class)), end)
	}
}

// TestEachFault: what the machine throws is caught by its class, its parents', and by one of all; by another class's row it isn't.
func TestEachFault(t *testing.T) {
	faults := []struct{ name, text string }{
		{"NullFault", "1, 190"}, {"NullFault", "1, 180 field:a.x:I"}, {"NullFault", "1, 182 method:a.own:()I"}, {"NullFault", "1, 3, 47"},
		{"ZeroFault", "4, 3, 108"}, {"ZeroFault", "10, 9, 109"}, {"ZeroFault", "4, 3, 112"}, {"ZeroFault", "10, 9, 113"},
		{"BoundsFault", "3, 188 10, 3, 46"}, {"BoundsFault", "4, 188 11, 2, 9, 80"}, {"BoundsFault", "19 string:hi, 5, 182 method:String.charAt:(I)I"},
		{"SizeFault", "2, 188 10"}, {"SizeFault", "2, 189 class:a"}, {"CastFault", "19 string:hi, 192 class:a"},
		{"StoreFault", "4, 189 class:a, 192 class:[LObject;, 3, 19 string:hi, 83"},
		{"MemoryFault", "187 class:a"}, {"MemoryFault", "3, 188 10"}, {"MemoryFault", "3, 189 class:a"},
		{"DepthFault", "3, 184 method:a.deep:(I)I"},
	}
	for _, fault := range faults {
		for _, row := range []struct {
			class string
			fits  bool
		}{{fault.name, true}, {"Throwable", true}, {"", true}, {"Exception", fault.name != "MemoryFault" && fault.name != "DepthFault"}, {"e", false}} {
			stack := "LThrowable;"
			p := linked(t, append(catching(), class("a: x I").with("own ()I", "3, 172").with("static deep (I)I", "21 0, 184 method:a.deep:(I)I, 172").
				with("static f ()I", "try: "+fault.text+", then: 2, 172, catch: 58 0, 25 0, 193 class:"+fault.name+", 172", "frame catch |"+stack, "row try then catch "+row.class))...)
			s := wide
			if fault.name == "MemoryFault" {
				s.full = []int{1}
			}
			if row.fits {
				p.endsBy(t, s, "a.f()I", nil, "returns 1", "throws "+fault.name)
			} else {
				p.endsBy(t, s, "a.f()I", nil, "throws "+fault.name, "throws "+fault.name)
			}
		}
	}
}

// TestEdgesOfRows: From is in, To is out. Three that may throw stand one behind the other, with nothing between.
func TestEdgesOfRows(t *testing.T) {
	c := class("a")
	for i, row := range []string{"row zero one catch", "row one two catch", "row two three catch", "row zero two catch", "row one three catch", "row zero end catch", "row two end catch"} {
		c.with(fmt.Sprintf("static f%d (III)I", i), "4, 21 2, 21 1, 21 0, zero: 108, one: 108, two: 108, three: 172, catch: 87, 2, 172", "frame catch |LObject;", row)
	}
	p := linked(t, c)
	for i, catches := range [][3]bool{{true, false, false}, {false, true, false}, {false, false, true}, {true, true, false}, {false, true, true}, {true, true, true}, {false, false, true}} {
		for at, is := range catches {
			args := with(1, 1, 1)
			args[at] = 0
			end := "throws ZeroFault"
			if is {
				end = "returns -1"
			}
			p.ends(t, fmt.Sprintf("a.f%d(III)I", i), args, end)
		}
		p.ends(t, fmt.Sprintf("a.f%d(III)I", i), with(1, 1, 1), "returns 1")
	}
}

// TestRowsWithinRows: the first one is meant, be it the inner or the outer one; what the inner one caught may throw into the outer one.
func TestRowsWithinRows(t *testing.T) {
	c := class("a")
	const text = "outer: 0, inner: 25 0, 191, caught: 191, over: 0, done: 87, 4, 172, last: 87, 5, 172"
	frames := []string{"frame caught |LThrowable;", "frame over |LThrowable;", "frame last |LThrowable;"}
	c.with("static f (LThrowable;)I", text, append(frames, "row inner caught caught e", "row outer over last")...)
	c.with("static g (LThrowable;)I", text, append(frames, "row outer over last", "row inner caught caught e")...)
	c.with("static h (LThrowable;)I", text, append(frames, "row inner caught caught e", "row outer over last e2", "row outer inner over")...)
	// What is caught within its own row is thrown into it again, till there are three.
	c.with("static again (LThrowable;)I 3/2", "3, 54 1, try: 25 0, 191, catch: 132 1 1, 21 1, 6, 160 @more, 87, 21 1, 172, more: 191", "frame catch LThrowable;,I|LThrowable;", "frame more LThrowable;,I|LThrowable;", "row try end catch")
	// The thing that was caught is looked at, and thrown on as it is, or in another one's place.
	c.with("static on (LThrowable;)I 5/3", "try: 25 0, 184 method:t.pass:(LThrowable;)I, 172, catch: 58 1, 25 1, 193 class:e2, 153 @plain, 187 class:d, 191, plain: 25 1, 191", "frame catch LThrowable;|LThrowable;", "frame plain LThrowable;,LThrowable;|", "row try catch catch Exception")
	p := linked(t, append(catching(), c)...)
	p.ends(t, "a.f(LThrowable;)I", with(one("e")), "returns 2", "throws it", "throws it")
	p.ends(t, "a.f(LThrowable;)I", with(one("d")), "returns 2", "throws it")
	p.ends(t, "a.g(LThrowable;)I", with(one("e")), "returns 2", "throws it")
	p.ends(t, "a.h(LThrowable;)I", with(one("e2")), "returns 2", "throws it", "throws it")
	p.ends(t, "a.h(LThrowable;)I", with(one("e")), "throws it", "throws it", "throws it")
	p.ends(t, "a.h(LThrowable;)I", with(one("d")), "throws it", "throws it")
	p.ends(t, "a.again(LThrowable;)I", with(one("d")), "returns 3", "throws it", "throws it", "throws it")
	p.ends(t, "a.on(LThrowable;)I", with(one("e2")), "throws #1", "throws it", "makes #1 d 0", "throws #1")
	p.ends(t, "a.on(LThrowable;)I", with(one("e")), "throws it", "throws it", "throws it")
	p.ends(t, "a.on(LThrowable;)I", with(one("d")), "throws it", "throws it")
	p.ends(t, "a.on(LThrowable;)I", with(nil), "throws NullFault", "throws NullFault", "throws NullFault")
}

// TestWritesThatAreLost: where an instruction throws, what it would write isn't written, and the locals are as they were.
func TestWritesThatAreLost(t *testing.T) {
	p := linked(t, append(catching(), class("a: x I, static s I").
		// What a call would give back.
		with("static call (LThrowable;)I 5/3", "16 7, 54 1, try: 25 0, 184 method:t.pass:(LThrowable;)I, 54 1, then: 21 1, 172, catch: 87, 21 1, 172", "frame catch LThrowable;,I|LThrowable;", "row try then catch").
		// A quotient, a word, an element, a thing that is made, a static.
		with("static rest (II)I 5/3", "16 7, 54 2, try: 21 0, 21 1, 112, 54 2, then: 21 2, 172, catch: 87, 21 2, 172", "frame catch I,I,I|LThrowable;", "row try then catch").
		with("static field (La;)I 5/3", "16 7, 54 1, try: 25 0, 180 field:a.x:I, 54 1, then: 21 1, 172, catch: 87, 21 1, 172", "frame catch La;,I|LThrowable;", "row try then catch").
		with("static element ([LObject;I)LObject; 5/3", "19 string:old, 58 2, try: 25 0, 21 1, 50, 58 2, then: 25 2, 176, catch: 87, 25 2, 176", "frame catch [LObject;,I,LObject;|LThrowable;", "row try then catch").
		with("static made (LObject;)LObject;", "try: 187 class:a, 58 0, then: 25 0, 176, catch: 87, 25 0, 176", "frame catch LObject;|LThrowable;", "row try then catch").
		with("static put (LObject;[LObject;)I 5/3", "8, 54 2, try: 132 2 1, 25 1, 3, 25 0, 83, 132 2 1, then: 21 2, 172, catch: 87, 21 2, 172", "frame catch ,,I|LThrowable;", "row try then catch").
		with("static counts (I)I 5/2", "8, 54 1, try: 132 1 1, 21 0, 188 10, 132 1 1, 190, 54 1, then: 21 1, 172, catch: 87, 21 1, 172", "frame catch ,I|LThrowable;", "row try then catch").
		with("static statics (I)I", "8, 179 field:a.s:I, try: 4, 21 0, 108, 179 field:a.s:I, then: 178 field:a.s:I, 172, catch: 87, 178 field:a.s:I, 172", "frame catch |LThrowable;", "row try then catch"))...)
	p.ends(t, "a.call(LThrowable;)I", with(one("e")), "returns 7")
	p.ends(t, "a.rest(II)I", with(17, 0), "returns 7")
	p.ends(t, "a.rest(II)I", with(17, 5), "returns 2")
	p.ends(t, "a.field(La;)I", with(nil), "returns 7")
	p.ends(t, "a.field(La;)I", with(one("a")), "returns 0")
	for i, end := range []string{`returns "old"`, "returns a0", `returns "old"`} {
		p.ends(t, "a.element([LObject;I)LObject;", with(things("LObject;", "a"), i-1), end)
	}
	p.ends(t, "a.element([LObject;I)LObject;", with(nil, 0), `returns "old"`)
	p.ends(t, "a.made(LObject;)LObject;", with(one("t")), "returns #1")
	p.endsBy(t, setting{fuel: 100, depth: 1, full: []int{1}}, "a.made(LObject;)LObject;", with(one("t")), "returns it", "throws MemoryFault")
	p.ends(t, "a.put(LObject;[LObject;)I", with(one("a"), things("Lt;", "")), "returns 6", "throws StoreFault")
	p.ends(t, "a.put(LObject;[LObject;)I", with(one("t"), things("Lt;", "")), "returns 7", "word 0 of it is it")
	p.ends(t, "a.counts(I)I", with(-1), "returns 6", "throws SizeFault")
	p.ends(t, "a.counts(I)I", with(9), "returns 9")
	p.ends(t, "a.statics(I)I", with(0), "returns 5", "static 0 is 5", "throws ZeroFault")
	p.ends(t, "a.statics(I)I", with(1), "returns 1")
}

// TestLocalsAsTheyWere: each local is what it was last, wherever in the row the throw came.
func TestLocalsAsTheyWere(t *testing.T) {
	p := linked(t, append(catching(), class("a").
		with("static f (I)I 5/4", "3, 54 1, 9, 55 2, 1, 58 3, try: 132 1 1, 21 0, 4, 159 @zero, 132 1 10, 10, 55 2, 21 0, 5, 159 @zero, 132 1 10, 21 0, 6, 159 @zero, 187 class:e, 58 3, 132 1 1, zero: 4, 3, 108, 54 1, then: 21 1, 172, "+
			"catch: 87, 25 3, 199 @thing, 21 1, 22 2, 136, 96, 172, thing: 16 100, 21 1, 96, 172",
			"frame zero I,I,J,Le;|", "frame catch I,I,J,Le;|LThrowable;", "frame thing I,I,J,Le;|", "row try then catch"))...)
	for n, want := range map[int]int{1: 1, 2: 12, 3: 22, 4: 122} {
		p.ends(t, "a.f(I)I", with(n), fmt.Sprint("returns ", want))
	}
}

// TestPlacesOfCatchers: others lead to it, too; it lies ahead of what its row is about; it stands in its own row; several rows lead to it.
func TestPlacesOfCatchers(t *testing.T) {
	p := linked(t, append(catching(), class("a: x I").
		with("static led (I)LObject;", "try: 21 0, 153 @throw, 187 class:e, 167 @catch, throw: 1, 191, then: 0, catch: 176", "frame throw I|", "frame then |LObject;", "frame catch |LObject;", "row try then catch").
		with("static falls (I)LObject;", "try: 4, 21 0, 108, 87, 187 class:d, catch: 176", "frame catch |LObject;", "row try catch catch").
		with("static ahead (I)I", "167 @try, catch: 87, 2, 172, try: 4, 21 0, 108, 172", "frame catch |LObject;", "frame try I|", "row try end catch").
		with("static circle (I)I 5/2", "3, 54 1, 167 @try, catch: 87, 132 0 1, 132 1 1, try: 16 12, 21 0, 108, 87, 132 0 -1, 21 1, 6, 161 @try, 21 1, 172", "frame catch I,I|LThrowable;", "frame try I,I|", "row try end catch ZeroFault").
		with("static within (I)I", "try: 4, 21 0, 108, 172, catch: 87, 132 0 -1, 16 12, 21 0, 108, 172", "frame catch I|LThrowable;", "row try end catch").
		with("static several (II)I", "one: 4, 21 0, 108, 87, two: 4, 21 1, 108, 172, catch: 193 class:ZeroFault, 172", "frame catch |LObject;", "row one two catch ZeroFault", "row two catch catch", "row one catch catch e").
		with("static onCall (LThrowable;)I", "try: 25 0, 184 method:t.throw:(LThrowable;)V, 3, 172, catch: 87, 25 0, 193 class:e, 172", "frame catch LThrowable;|LObject;", "row try catch catch e"))...)
	p.ends(t, "a.led(I)LObject;", with(1), "returns #1", "makes #1 e 0")
	p.ends(t, "a.led(I)LObject;", with(0), "returns NullFault", "throws NullFault")
	p.ends(t, "a.falls(I)LObject;", with(1), "returns #1")
	p.ends(t, "a.falls(I)LObject;", with(0), "returns ZeroFault")
	p.ends(t, "a.ahead(I)I", with(0), "returns -1")
	p.ends(t, "a.ahead(I)I", with(1), "returns 1")
	p.ends(t, "a.circle(I)I", with(3), "returns 3")
	p.ends(t, "a.within(I)I", with(0), "returns -12")
	p.ends(t, "a.within(I)I", with(2), "returns 0")
	p.ends(t, "a.several(II)I", with(0, 1), "returns 1")
	p.ends(t, "a.several(II)I", with(1, 0), "returns 1")
	p.ends(t, "a.several(II)I", with(1, 2), "returns 0")
	p.ends(t, "a.onCall(LThrowable;)I", with(one("e2")), "returns 1")
	p.ends(t, "a.onCall(LThrowable;)I", with(one("d")), "throws it")
}

// TestRowsThatCatchNothing: about what can't throw, and about what nobody comes to.
func TestRowsThatCatchNothing(t *testing.T) {
	p := linked(t, class("a").
		with("static f (I)I", "nop: 0, pop: 3, 87, on: 21 0, 172, catch: 87, 2, 172, more: 1, 191", "frame catch |LObject;", "frame more |", "row nop pop catch", "row pop on catch", "row more end catch").
		with("static g (I)I", "3, gone: 87, 16 7, on: 4, 21 0, 108, 172, catch: 87, 2, 172", "frame catch |LObject;", "row gone on catch", "row on catch catch"))
	p.ends(t, "a.f(I)I", with(4), "returns 4")
	p.ends(t, "a.g(I)I", with(0), "returns -1")
}

// TestThrowsWithAFullStack: what lay there is gone when it goes on.
func TestThrowsWithAFullStack(t *testing.T) {
	p := linked(t, class("a").with("static f (II)I 5/2", "try: 21 1, 10, 1, 21 1, 21 0, 108, on: 87, 87, 87, 172, catch: 16 9, 3, 9, 1, 87, 87, 87, 95, 87, 172", "frame catch |LThrowable;", "row try on catch"))
	p.ends(t, "a.f(II)I", with(0, 3), "returns 9")
	p.ends(t, "a.f(II)I", with(1, 3), "returns 3")
}

// TestRowsOfFunctions: each leads to an instruction that catches; rows that lead to one place may lead to one of these.
func TestRowsOfFunctions(t *testing.T) {
	p := linked(t, class("a").with("static f (II)I", "one: 4, 21 0, 108, 87, two: 4, 21 1, 108, 172, catch: 87, 3, 172, other: 87, 4, 172",
		"frame catch |LObject;", "frame other |LException;", "row one two catch", "row two catch other ZeroFault", "row one catch catch DepthFault"))
	f := p.funcs[p.id("a.f(II)I")]
	if len(f.Rows) != 3 || f.Rows[0].Class != "" || f.Rows[1].Class != "ZeroFault" || f.Rows[2].Class != "DepthFault" {
		t.Fatalf("%+v", f.Rows)
	}
	for _, r := range f.Rows {
		if f.Code[r.At].Op != api.OpCatch {
			t.Errorf("%+v leads to %+v", r, f.Code[r.At])
		}
	}
	p.ends(t, "a.f(II)I", with(0, 0), "returns 0")
	p.ends(t, "a.f(II)I", with(1, 0), "returns 1")
}
