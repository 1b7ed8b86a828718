package lower_test

import (
	"fmt"
	"math"
	"testing"

	"reglet/api"
	"reglet/num"
)

// Numbers at which something changes.
var (
	someInts  = []int{0, 1, -1, 2, -2, 5, 31, 32, 33, 63, 64, 127, 128, -128, -129, 255, 256, 32767, 32768, -32768, -32769, 65535, 65536, math.MaxInt32, math.MaxInt32 - 1, math.MinInt32, math.MinInt32 + 1}
	someLongs = []int64{0, 1, -1, 2, -2, 5, 31, 32, 33, 63, 64, 65, 255, 65536, math.MaxInt32, math.MinInt32, math.MaxInt32 + 1, math.MinInt32 - 1, 1 << 32, -1 << 32, math.MaxInt64, math.MaxInt64 - 1, math.MinInt64, math.MinInt64 + 1}
)

// valuesOf are arguments of a kind of numbers.
func valuesOf(kind int) []argument {
	var l []argument
	if kind == 1 {
		for _, n := range someInts {
			l = append(l, n)
		}
		return l
	}
	for _, n := range someLongs {
		l = append(l, n)
	}
	return l
}

// Words by kinds: the descriptor, and the codes that push a local, pop into one and give back.
var (
	letters = []string{"", "I", "J", "La;"}
	loads   = []int{0, 21, 22, 25}
	stores  = []int{0, 54, 55, 58}
	returns = []int{177, 172, 173, 176}
)

func TestConstants(t *testing.T) {
	c := class("a")
	want := map[string]string{}
	add := func(text, letter, value string) {
		d := fmt.Sprintf("()%s", letter)
		name := fmt.Sprintf("f%d", len(want))
		code := map[string]int{"I": 172, "J": 173}[letter]
		if code == 0 {
			code = 176
		}
		c.with("static "+name+" "+d, fmt.Sprintf("%s, %d", text, code))
		want["a."+name+d] = "returns " + value
	}
	for n := -1; n <= 5; n++ {
		add(fmt.Sprint(n+3), "I", fmt.Sprint(n))
	}
	add("9", "J", "0L")
	add("10", "J", "1L")
	for _, n := range []int{0, 1, -1, 100, 127, -128} {
		add(fmt.Sprint("16 ", n), "I", fmt.Sprint(n))
	}
	for _, n := range []int{0, 1, -1, 128, -129, 32767, -32768} {
		add(fmt.Sprint("17 ", n), "I", fmt.Sprint(n))
	}
	for _, n := range someInts {
		add(fmt.Sprint("19 int:", n), "I", fmt.Sprint(n))
	}
	for _, n := range someLongs {
		add(fmt.Sprint("19 long:", n), "J", fmt.Sprint(n)+"L")
	}
	for _, text := range []string{"hi", "", "\xff\x00", "I"} {
		add("19 string:"+text, "LString;", fmt.Sprintf("%q", text))
	}
	add("1", "La;", "nothing")
	p := linked(t, c)
	for method, end := range want {
		p.ends(t, method, nil, end)
	}
}

// TestSameString: a text is always the same string, in all methods and classes; another text is another one.
func TestSameString(t *testing.T) {
	p := linked(t, class("b").with("static g ()LString;", "19 string:hi, 176"), class("a").
		with("static f ()I", "19 string:hi, 184 method:b.g:()LString;, 165 @same, 3, 172, same: 4, 172", "frame same |").
		with("static g ()I", "19 string:ho, 184 method:b.g:()LString;, 165 @same, 3, 172, same: 4, 172", "frame same |"))
	p.ends(t, "a.f()I", nil, "returns 1")
	p.ends(t, "a.g()I", nil, "returns 0")
}

// TestNumbers: each code that computes, at numbers at their limits.
func TestNumbers(t *testing.T) {
	c := class("a")
	var codes []int
	for code := 96; code <= 148; code++ {
		first, second, made := num.Kinds(code)
		if first == 0 {
			continue
		}
		codes = append(codes, code)
		text := fmt.Sprintf("%d 0, ", loads[first])
		if second != 0 {
			text += fmt.Sprintf("%d 1, ", loads[second])
		}
		c.with(fmt.Sprintf("static f%d (%s%s)%s 2/2", code, letters[first], letters[second], letters[made]), fmt.Sprintf("%s%d, %d", text, code, returns[made]))
	}
	if len(codes) != 22+7+1 {
		t.Fatalf("%d codes", len(codes))
	}
	p := linked(t, c)
	for _, code := range codes {
		first, second, made := num.Kinds(code)
		method := fmt.Sprintf("a.f%d(%s%s)%s", code, letters[first], letters[second], letters[made])
		for _, a := range valuesOf(first) {
			if second == 0 {
				p.ends(t, method, with(a), "returns "+valueText(valueOf(made, num.One(code, word(a)))))
				continue
			}
			for _, b := range valuesOf(second) {
				want := "returns " + valueText(valueOf(made, num.Two(code, word(a), word(b))))
				if isDivision := code == 108 || code == 109 || code == 112 || code == 113; isDivision && word(b) == 0 {
					want = "throws ZeroFault"
				}
				p.ends(t, method, with(a, b), want)
			}
		}
	}
}

// word is an argument as a word.
func word(a argument) int64 {
	if n, is := a.(int); is {
		return int64(n)
	}
	return a.(int64)
}

func TestCount(t *testing.T) {
	c := class("a")
	steps := []int{0, 1, -1, 127, -128}
	for i, by := range steps {
		c.with(fmt.Sprintf("static f%d (JI)I", i), fmt.Sprintf("132 1 %d, 21 1, 172", by))
	}
	p := linked(t, c)
	for i, by := range steps {
		for _, n := range someInts {
			p.ends(t, fmt.Sprintf("a.f%d(JI)I", i), with(int64(9), n), fmt.Sprint("returns ", int32(n+by)))
		}
	}
}

// checkLeads: a code that leads does so where it is said to: its method gives back 1 then, else 0.
func checkLeads(t *testing.T, p *program, method string, args []argument, leads bool) {
	t.Helper()
	want := "returns 0"
	if leads {
		want = "returns 1"
	}
	p.ends(t, method, args, want)
}

func TestComparisons(t *testing.T) {
	c := class("a")
	for i := range 6 {
		c.with(fmt.Sprintf("static zero%d (I)I", i), fmt.Sprintf("21 0, %d @yes, 3, 172, yes: 4, 172", 153+i), "frame yes |")
		c.with(fmt.Sprintf("static two%d (II)I", i), fmt.Sprintf("21 0, 21 1, %d @yes, 3, 172, yes: 4, 172", 159+i), "frame yes |")
	}
	p := linked(t, c)
	for i, holds := range []func(a, b int) bool{
		func(a, b int) bool { return a == b }, func(a, b int) bool { return a != b }, func(a, b int) bool { return a < b },
		func(a, b int) bool { return a >= b }, func(a, b int) bool { return a > b }, func(a, b int) bool { return a <= b },
	} {
		for _, a := range someInts {
			checkLeads(t, p, fmt.Sprintf("a.zero%d(I)I", i), with(a), holds(a, 0))
			for _, b := range someInts {
				checkLeads(t, p, fmt.Sprintf("a.two%d(II)I", i), with(a, b), holds(a, b))
			}
		}
	}
}

// TestSameThing: things are the same by what they are, not by what is in them.
func TestSameThing(t *testing.T) {
	c := class("a")
	for i, code := range []int{165, 166} {
		c.with(fmt.Sprintf("static two%d (LObject;)I", i), fmt.Sprintf("187 class:a, 25 0, 89, 187 class:a, %d @yes, 87, 87, 3, 172, yes: 87, 87, 4, 172", code), "frame yes LObject;|La;,LObject;")
		c.with(fmt.Sprintf("static same%d (LObject;)I", i), fmt.Sprintf("25 0, 89, %d @yes, 3, 172, yes: 4, 172", code), "frame yes |")
		c.with(fmt.Sprintf("static none%d (LObject;)I", i), fmt.Sprintf("25 0, 1, %d @yes, 3, 172, yes: 4, 172", code), "frame yes |")
		c.with(fmt.Sprintf("static one%d (LObject;)I", i), fmt.Sprintf("25 0, %d @yes, 3, 172, yes: 4, 172", 198+i), "frame yes |")
	}
	p := linked(t, c)
	object := func(m *machine) any { return m.object("it", "a") }
	for i := range 2 {
		for _, a := range with(object, nil) {
			isThing := a != nil
			checkLeads(t, p, fmt.Sprintf("a.two%d(LObject;)I", i), with(a), i == 1)
			checkLeads(t, p, fmt.Sprintf("a.same%d(LObject;)I", i), with(a), i == 0)
			checkLeads(t, p, fmt.Sprintf("a.none%d(LObject;)I", i), with(a), isThing == (i == 1))
			checkLeads(t, p, fmt.Sprintf("a.one%d(LObject;)I", i), with(a), isThing == (i == 1))
		}
	}
}

func TestGoto(t *testing.T) {
	p := linked(t, class("a").
		with("static f ()I", "167 @ahead, back: 0, 4, 172, ahead: 167 @back", "frame back |", "frame ahead |").
		with("static g ()I", "167 @next, next: 5, 172", "frame next |").
		with("static h ()V", "self: 167 @self", "frame self |").
		with("static k (I)I", "again: 21 0, 153 @done, 132 0 -1, 167 @again, done: 7, 172", "frame again I|", "frame done I|"))
	p.ends(t, "a.f()I", nil, "returns 1")
	p.ends(t, "a.g()I", nil, "returns 2")
	p.ends(t, "a.h()V", nil, isUnderWay)
	p.ends(t, "a.k(I)I", with(1000), "returns 4")
	p.ends(t, "a.k(I)I", with(-1), isUnderWay)
}

// TestReturns: of each kind; an instruction behind it isn't gone to.
func TestReturns(t *testing.T) {
	p := linked(t, class("a").
		with("static f (I)I", "21 0, 172, more: 8, 172", "frame more |").
		with("static g (J)J", "22 0, 173, more: 9, 173", "frame more |").
		with("static h (La;)La;", "25 0, 176, more: 1, 176", "frame more |").
		with("static k ()V", "177, more: 177", "frame more |").
		with("static deep ()I", "3, 9, 1, 7, 172"))
	p.ends(t, "a.f(I)I", with(math.MinInt32), "returns -2147483648")
	p.ends(t, "a.g(J)J", with(int64(math.MinInt64)), "returns -9223372036854775808L")
	p.ends(t, "a.h(La;)La;", with(func(m *machine) any { return m.object("it", "a") }), "returns it")
	p.ends(t, "a.k()V", nil, "returns")
	p.ends(t, "a.deep()I", nil, "returns 4")
}

// numbers is an array of such elements.
func numbers(element string, l ...int) func(*machine) any {
	return func(m *machine) any {
		t := m.array("it", element, len(l))
		for i, n := range l {
			t.words[i] = valueOf(map[string]int{"I": 1, "J": 2}[element], int64(n))
		}
		return t
	}
}

// things is an array of things of those classes ("": nothing).
func things(element string, classes ...string) func(*machine) any {
	return func(m *machine) any {
		t := m.array("it", element, len(classes))
		for i, class := range classes {
			if class != "" {
				t.words[i] = m.object(fmt.Sprint(class, i), class)
			}
		}
		return t
	}
}

func TestElements(t *testing.T) {
	p := linked(t, class("a").
		with("static ints ([II)I", "25 0, 21 1, 46, 172").
		with("static longs ([JI)J", "25 0, 21 1, 47, 173").
		with("static refs ([LObject;I)LObject;", "25 0, 21 1, 50, 176").
		with("static putInt ([III)V", "25 0, 21 1, 21 2, 79, 177").
		with("static putLong ([JIJ)V", "25 0, 21 1, 22 2, 80, 177").
		with("static putRef ([LObject;ILObject;)V", "25 0, 21 1, 25 2, 83, 177"))
	object := func(m *machine) any { return m.object("new", "a") }
	for _, try := range []struct {
		get, put       string
		array          func(*machine) any
		value          argument
		first, text    string
		otherArray     func(*machine) any
		otherFirstText string
	}{
		{"a.ints([II)I", "a.putInt([III)V", numbers("I", math.MinInt32, 6, 7), math.MaxInt32, "-2147483648", "2147483647", numbers("I", 3), "3"},
		{"a.longs([JI)J", "a.putLong([JIJ)V", numbers("J", math.MinInt64, 6, 7), int64(math.MaxInt64), "-9223372036854775808L", "9223372036854775807L", numbers("J", 3), "3L"},
		{"a.refs([LObject;I)LObject;", "a.putRef([LObject;ILObject;)V", things("LObject;", "a", "", "Object"), object, "a0", "new", things("La;", ""), "nothing"},
	} {
		p.ends(t, try.get, with(try.array, 0), "returns "+try.first)
		p.ends(t, try.get, with(try.otherArray, 0), "returns "+try.otherFirstText)
		p.ends(t, try.put, with(try.array, 0, try.value), "returns", "word 0 of it is "+try.text)
		p.ends(t, try.put, with(try.array, 2, try.value), "returns", "word 2 of it is "+try.text)
		for _, i := range []int{-1, -2, 3, 4, math.MinInt32, math.MaxInt32} {
			p.ends(t, try.get, with(try.array, i), "throws BoundsFault")
			p.ends(t, try.put, with(try.array, i, try.value), "throws BoundsFault", "throws BoundsFault")
			// That it is nothing comes first.
			p.ends(t, try.get, with(nil, i), "throws NullFault")
			p.ends(t, try.put, with(nil, i, try.value), "throws NullFault")
		}
		p.ends(t, try.get, with(nil, 0), "throws NullFault")
		p.ends(t, try.put, with(nil, 0, try.value), "throws NullFault")
	}
	p.ends(t, "a.refs([LObject;I)LObject;", with(things("LObject;", "a", "", "Object"), 1), "returns nothing")
	p.ends(t, "a.putRef([LObject;ILObject;)V", with(things("LObject;", "a"), 0, nil), "returns", "word 0 of it is nothing")
}

// TestElementsOfNothing: code that is taken though there can never be an array.
func TestElementsOfNothing(t *testing.T) {
	p := linked(t, class("a").
		with("static f ()I", "1, 3, 46, 172").with("static g ()J", "1, 3, 47, 173").with("static h ()La;", "1, 3, 50, 176").
		with("static k ()V", "1, 3, 3, 79, 177").with("static l ()V", "1, 3, 9, 80, 177").with("static m ()V", "1, 3, 1, 83, 177").with("static n ()I", "1, 190, 172"))
	for _, method := range []string{"a.f()I", "a.g()J", "a.h()La;", "a.k()V", "a.l()V", "a.m()V", "a.n()I"} {
		p.ends(t, method, nil, "throws NullFault")
	}
}

// family has classes, interfaces and arrays that fit, and that don't.
func family() []*told {
	return []*told{class("interface i"), class("interface j < Object i"), class("a"), class("b < a j"), class("c < b"), class("d < Object i")}
}

// TestStores: what may lie in an array is said by the array that is there, not by its local.
func TestStores(t *testing.T) {
	p := linked(t, append(family(), class("z").with("static f ([LObject;ILObject;)V", "25 0, 21 1, 25 2, 83, 177"))...)
	one := func(typ string) func(*machine) any {
		return func(m *machine) any {
			if typ[0] == '[' {
				return m.array("new", typ[1:], 1)
			}
			return m.object("new", typ)
		}
	}
	for element, fits := range map[string]map[string]bool{
		"La;":         {"a": true, "b": true, "c": true, "d": false, "Object": false, "String": false, "[La;": false, "[I": false},
		"Li;":         {"a": false, "b": true, "c": true, "d": true, "Object": false, "[I": false},
		"Lj;":         {"a": false, "b": true, "c": true, "d": false},
		"LObject;":    {"a": true, "Object": true, "[I": true, "[[J": true, "[La;": true, "ZeroFault": true},
		"[I":          {"[I": true, "[J": false, "[[I": false, "a": false, "Object": false},
		"[La;":        {"[La;": true, "[Lb;": true, "[LObject;": false, "[[La;": false, "a": false, "[I": false},
		"[LObject;":   {"[La;": true, "[[I": true, "[I": false, "[LObject;": true, "Object": false},
		"LString;":    {"String": true, "a": false, "Object": false},
		"[[[[[[[[I":   {"[[[[[[[[I": true, "[[[[[[[I": false},
		"LThrowable;": {"ZeroFault": true, "Throwable": true, "a": false},
	} {
		for typ, is := range fits {
			end, done := "throws StoreFault", "throws StoreFault"
			if is {
				end, done = "returns", "word 0 of it is new"
			}
			p.ends(t, "z.f([LObject;ILObject;)V", with(things(element, ""), 0, one(typ)), end, done)
			// That a place is none comes first.
			p.ends(t, "z.f([LObject;ILObject;)V", with(things(element, ""), 1, one(typ)), "throws BoundsFault")
		}
		p.ends(t, "z.f([LObject;ILObject;)V", with(things(element, ""), 0, nil), "returns", "word 0 of it is nothing")
	}
}

// TestFields: the class's own, its parent's, one that hides its parent's, and statics.
func TestFields(t *testing.T) {
	base := class("a: x I, static s I, l J, r La;, static sl J, static sr La;")
	below := class("b < a: y I, x I, x J")
	interfaces := class("interface i: static si J")
	c := class("z")
	var methods []string
	for _, field := range []string{"a.x:I", "a.l:J", "a.r:La;", "b.x:I", "b.l:J", "b.r:La;", "b.y:I", "b.x:J"} {
		name := fmt.Sprintf("f%d", len(methods))
		x := constant("field", field)
		object := "L" + x.Text + ";"
		kind := map[string]int{"I": 1, "J": 2, "La;": 3}[x.Desc]
		c.with(fmt.Sprintf("static %s (%s%s)%s", name, object, x.Desc, x.Desc), fmt.Sprintf("25 0, %d 1, 181 field:%s, 25 0, 180 field:%s, %d", loads[kind], field, field, returns[kind]))
		methods = append(methods, fmt.Sprintf("z.%s(%s%s)%s", name, object, x.Desc, x.Desc))
	}
	for _, field := range []string{"a.s:I", "a.sl:J", "a.sr:La;", "b.s:I", "b.sl:J", "i.si:J"} {
		x := constant("field", field)
		kind := map[string]int{"I": 1, "J": 2, "La;": 3}[x.Desc]
		name := fmt.Sprintf("s%d", len(methods))
		c.with(fmt.Sprintf("static %s (%s)%s", name, x.Desc, x.Desc), fmt.Sprintf("%d 0, 179 field:%s, 178 field:%s, %d", loads[kind], field, field, returns[kind]))
		methods = append(methods, fmt.Sprintf("z.%s(%s)%s", name, x.Desc, x.Desc))
	}
	p := linked(t, base, below, interfaces, c)
	object := func(m *machine) any { return m.object("it", "b") }
	// a's words are x, l, r; b's y, x, x (a long) behind them. The statics are s, sl, sr, and then si.
	words := []int{0, 1, 2, 4, 1, 2, 3, 5}
	for i, method := range methods {
		letter := method[len(method)-1:]
		value, text := argument(77), "77"
		switch letter {
		case "J":
			value, text = int64(math.MinInt64), "-9223372036854775808L"
		case ";":
			value, text = func(m *machine) any { return m.object("new", "a") }, "new"
		}
		if i < len(words) {
			p.ends(t, method, with(object, value), "returns "+text, fmt.Sprintf("word %d of it is %s", words[i], text))
			p.ends(t, method, with(nil, value), "throws NullFault", "throws NullFault")
			continue
		}
		static := []int{0, 1, 2, 0, 1, 3}[i-len(words)]
		p.ends(t, method, with(value), "returns "+text, fmt.Sprintf("static %d is %s", static, text))
	}
}

// TestGetField: reading a word of nothing is a fault, too, and of a new thing it is zero.
func TestGetField(t *testing.T) {
	p := linked(t, class("a: x I, l J, r La;, static sx I, static sl J, static sr La;").
		with("static f (La;)I", "25 0, 180 field:a.x:I, 172").with("static g (La;)J", "25 0, 180 field:a.l:J, 173").with("static h (La;)La;", "25 0, 180 field:a.r:La;, 176").
		with("static sf ()I", "178 field:a.sx:I, 172").with("static sg ()J", "178 field:a.sl:J, 173").with("static sh ()La;", "178 field:a.sr:La;, 176"))
	object := func(m *machine) any { return m.object("it", "a") }
	for method, end := range map[string]string{"a.f(La;)I": "returns 0", "a.g(La;)J": "returns 0L", "a.h(La;)La;": "returns nothing"} {
		p.ends(t, method, with(object), end)
		p.ends(t, method, with(nil), "throws NullFault")
	}
	for method, end := range map[string]string{"a.sf()I": "returns 0", "a.sg()J": "returns 0L", "a.sh()La;": "returns nothing"} {
		p.ends(t, method, nil, end)
	}
}

func TestNew(t *testing.T) {
	p := linked(t, class("b < a: y J"), class("a: x I").
		with("static f ()La;", "187 class:a, 187 class:b, 176").
		with("static g ()LObject;", "187 class:Object, 176").
		with("static h ()LDepthFault;", "187 class:DepthFault, 176").
		with("static k ()J", "187 class:b, 89, 10, 181 field:b.y:J, 187 class:b, 180 field:b.y:J, 173"))
	p.ends(t, "a.f()La;", nil, "returns #2", "makes #1 a 0", "makes #2 b 0")
	p.ends(t, "a.g()LObject;", nil, "returns #1", "makes #1 Object 0")
	p.ends(t, "a.h()LDepthFault;", nil, "returns #1", "makes #1 DepthFault 0")
	p.ends(t, "a.k()J", nil, "returns 0L", "makes #1 b 0", "word 1 of #1 is 1L", "makes #2 b 0")
	for n := 1; n <= 2; n++ {
		p.endsBy(t, setting{fuel: 100, depth: 1, full: []int{n}}, "a.f()La;", nil, "throws MemoryFault")
	}
	p.endsBy(t, setting{fuel: 100, depth: 1, full: []int{3}}, "a.f()La;", nil, "returns #2")
}

func TestArrays(t *testing.T) {
	p := linked(t, append(family(), class("z").
		with("static ints (I)[I", "21 0, 188 10, 176").
		with("static longs (I)[J", "21 0, 188 11, 176").
		with("static refs (I)[La;", "21 0, 189 class:a, 176").
		with("static ifaces (I)[Lj;", "21 0, 189 class:j, 176").
		with("static nested (I)[[I", "21 0, 189 class:[I, 176").
		with("static deep (I)[[[[[[[[Lb;", "21 0, 189 class:[[[[[[[Lb;, 176").
		with("static strings (I)[LString;", "21 0, 189 class:String, 176").
		with("static length (LObject;)I", "25 0, 192 class:[I, 190, 172").
		with("static lengths ([La;)I", "25 0, 190, 172"))...)
	for method, typ := range map[string]string{"z.ints(I)[I": "[I", "z.longs(I)[J": "[J", "z.refs(I)[La;": "[La;", "z.ifaces(I)[Lj;": "[Lj;", "z.nested(I)[[I": "[[I", "z.deep(I)[[[[[[[[Lb;": "[[[[[[[[Lb;", "z.strings(I)[LString;": "[LString;"} {
		for _, n := range []int{0, 1, 5, mostElements} {
			p.ends(t, method, with(n), "returns #1", fmt.Sprintf("makes #1 %s %d", typ, n))
			p.endsBy(t, setting{fuel: 100, depth: 1, full: []int{1}}, method, with(n), "throws MemoryFault", "throws MemoryFault")
		}
		p.ends(t, method, with(math.MaxInt32), "throws MemoryFault")
		for _, n := range []int{-1, -2, math.MinInt32} {
			p.ends(t, method, with(n), "throws SizeFault", "throws SizeFault")
			// It is no thing that was to be made.
			p.endsBy(t, setting{fuel: 100, depth: 1, full: []int{1}}, method, with(n), "throws SizeFault")
		}
	}
	p.ends(t, "z.length(LObject;)I", with(numbers("I", 1, 2, 3)), "returns 3")
	p.ends(t, "z.length(LObject;)I", with(numbers("I")), "returns 0")
	p.ends(t, "z.length(LObject;)I", with(nil), "throws NullFault")
	p.ends(t, "z.lengths([La;)I", with(things("Lb;", "b", "")), "returns 2")
	p.ends(t, "z.lengths([La;)I", with(nil), "throws NullFault")
}

func TestThrow(t *testing.T) {
	p := linked(t, class("e < Exception: x I"), class("a").
		with("static f (LThrowable;)I", "25 0, 191").
		with("static g (Le;)V", "25 0, 191").
		with("static h ()V", "1, 191").
		with("static k ()V", "187 class:e, 191"))
	one := func(class string) func(*machine) any {
		return func(m *machine) any { return m.object("it", class) }
	}
	for _, class := range []string{"e", "Throwable", "Exception", "ZeroFault", "DepthFault"} {
		p.ends(t, "a.f(LThrowable;)I", with(one(class)), "throws it", "throws it")
	}
	p.ends(t, "a.f(LThrowable;)I", with(nil), "throws NullFault", "throws NullFault")
	p.ends(t, "a.g(Le;)V", with(one("e")), "throws it")
	p.ends(t, "a.h()V", nil, "throws NullFault")
	p.ends(t, "a.k()V", nil, "throws #1", "makes #1 e 0", "throws #1")
}

// TestCasts: both codes, of all that fits and doesn't; nothing passes, and is of no type.
func TestCasts(t *testing.T) {
	c := class("z")
	wanted := map[string]map[string]bool{
		"a":           {"a": true, "b": true, "c": true, "d": false, "Object": false, "[La;": false, "String": false},
		"i":           {"a": false, "b": true, "c": true, "d": true, "[Lb;": false},
		"Object":      {"a": true, "[I": true, "[[La;": true, "ZeroFault": true, "String": true},
		"String":      {"String": true, "a": false},
		"[I":          {"[I": true, "[J": false, "[[I": false, "a": false},
		"[La;":        {"[La;": true, "[Lb;": true, "[Ld;": false, "[LObject;": false, "a": false, "[[La;": false},
		"[Lj;":        {"[Lb;": true, "[Lj;": true, "[La;": false, "[Li;": false},
		"[LObject;":   {"[La;": true, "[[I": true, "[I": false, "Object": false},
		"Sys":         {"a": false, "Object": false},
		"Exception":   {"ZeroFault": true, "DepthFault": false, "Exception": true, "Throwable": false},
		"[[[[[[[[La;": {"[[[[[[[[Lb;": true, "[[[[[[[La;": false},
	}
	names := map[string]string{}
	for want := range wanted {
		name := fmt.Sprint("f", len(names))
		names[want] = name
		c.with("static "+name+" (LObject;)LObject;", "25 0, 192 class:"+want+", 176")
		c.with("static "+name+" (LObject;)I", "25 0, 193 class:"+want+", 172")
	}
	p := linked(t, append(family(), c)...)
	for want, tries := range wanted {
		cast, is := "z."+names[want]+"(LObject;)LObject;", "z."+names[want]+"(LObject;)I"
		for typ, fits := range tries {
			thing := func(m *machine) any {
				if typ[0] == '[' {
					return m.array("it", typ[1:], 0)
				}
				return m.object("it", typ)
			}
			if fits {
				p.ends(t, cast, with(thing), "returns it")
				p.ends(t, is, with(thing), "returns 1")
			} else {
				p.ends(t, cast, with(thing), "throws CastFault", "throws CastFault")
				p.ends(t, is, with(thing), "returns 0")
			}
		}
		p.ends(t, cast, with(nil), "returns nothing")
		p.ends(t, is, with(nil), "returns 0")
	}
}

// TestLocals: each kind, read and written, in the first places and in the last.
func TestLocals(t *testing.T) {
	c := class("a")
	var tries []string
	for kind := 1; kind <= 3; kind++ {
		for _, n := range []int{1, 2, 39} {
			d := fmt.Sprintf("(%s)%s", letters[kind], letters[kind])
			name := fmt.Sprintf("f%d", n)
			c.with(fmt.Sprintf("static %s %s 1/40", name, d), fmt.Sprintf("%d 0, %d %d, %d %d, %d", loads[kind], stores[kind], n, loads[kind], n, returns[kind]))
			tries = append(tries, "a."+name+d)
		}
	}
	p := linked(t, c)
	for _, method := range tries {
		switch letter := method[len(method)-1:]; letter {
		case "I":
			p.ends(t, method, with(-5), "returns -5")
		case "J":
			p.ends(t, method, with(int64(math.MinInt64)), "returns -9223372036854775808L")
		case ";":
			p.ends(t, method, with(func(m *machine) any { return m.object("it", "a") }), "returns it")
			p.ends(t, method, with(nil), "returns nothing")
		}
	}
	if api.MaxLocals != 40 {
		t.Error("39 isn't the last local")
	}
}
