package press_test

import (
	"math"
	"reflect"
	"slices"
	"strings"
	"testing"

	"reglet/api"
)

// TestEachSpotChanged holds Write against the reference at a class that is changed in one spot.
func TestEachSpotChanged(t *testing.T) {
	written, refused := 0, 0
	c := ordinary()
	for _, s := range spotsOf(&c) {
		was := s.held()
		for _, other := range others(s.value) {
			s.value.Set(other)
			want := wantWrite(c)
			checkWrite(t, c, want)
			if want != nil {
				written++
			} else {
				refused++
			}
			s.value.Set(was)
		}
	}
	if written < 100 || refused < 1000 {
		t.Error(written, refused)
	}
}

// TestWrongNumbers: no number of a class's parts may be one that two bytes can't tell, and none of them is taken for the one that its bytes would tell.
func TestWrongNumbers(t *testing.T) {
	c := ordinary()
	seen := 0
	for _, s := range spotsOf(&c) {
		if s.value.Kind() != reflect.Int {
			continue
		}
		seen++
		was := s.value.Int()
		for _, n := range []int64{-1, -65536, -65535, 65536, 65537, was - 65536, was + 65536, was + 1<<17, was + 1<<32, was ^ math.MinInt64, was + 256<<16, -was - 1, math.MinInt64, math.MaxInt64} {
			s.value.SetInt(n)
			checkRefused(t, c)
		}
		s.value.SetInt(was)
	}
	// Flags of the class, of two fields and of two methods; a method's stack and locals, twice; three of each row, one of each frame; the constants' kinds.
	if want := 5 + 4 + 6 + 2 + len(c.Pool); seen != want {
		t.Errorf("there are %d numbers, not %d", seen, want)
	}
}

// TestWithoutConstant: each constant that is wanted must be there.
func TestWithoutConstant(t *testing.T) {
	c := ordinary()
	unwanted := []int{11, 12, 13, 14, 15, 16, 17}
	for i := 1; i < len(c.Pool); i++ {
		d := c
		d.Pool = slices.Delete(slices.Clone(c.Pool), i, i+1)
		if slices.Contains(unwanted, i) {
			checkWritten(t, d)
			continue
		}
		checkRefused(t, d)
		// Another text, or a text instead of a class, doesn't do.
		for _, other := range []api.Const{{}, {Kind: 1}, {Kind: 1, Text: c.Pool[i].Text + "x"}, {Kind: 8, Text: c.Pool[i].Text}, {Kind: 8 - c.Pool[i].Kind, Text: c.Pool[i].Text}, {Kind: 3}} {
			d.Pool = slices.Clone(c.Pool)
			d.Pool[i] = other
			checkRefused(t, d)
		}
		// Nor does constant 0.
		d.Pool = slices.Delete(slices.Clone(c.Pool), i, i+1)
		d.Pool[0] = c.Pool[i]
		checkRefused(t, d)
	}
}

// TestWithoutNames: what a constant names must be there, whoever else wants it.
func TestWithoutNames(t *testing.T) {
	for _, x := range []api.Const{
		{Kind: 7, Text: "z"}, {Kind: 7, Text: "[J"}, {Kind: 8, Text: "z"}, {Kind: 8, Text: ""},
		{Kind: 9, Text: "z", Name: "a", Desc: "I"}, {Kind: 9, Text: "a", Name: "z", Desc: "I"}, {Kind: 9, Text: "a", Name: "a", Desc: "J"},
		{Kind: 10, Text: "z", Name: "a", Desc: "()V"}, {Kind: 10, Text: "a", Name: "<z>", Desc: "()V"}, {Kind: 10, Text: "a", Name: "a", Desc: "()J"},
		{Kind: 11, Text: "z", Name: "a", Desc: "()V"}, {Kind: 11, Text: "a", Name: "z", Desc: "()V"}, {Kind: 11, Text: "a", Name: "a", Desc: "(J)V"},
	} {
		c := pooled(shortest, api.Const{Kind: 1, Text: "I"}, api.Const{Kind: 1, Text: "()V"})
		c.Pool = append(c.Pool, x)
		checkRefused(t, c)
		checkWritten(t, pooled(shortest, x))
		for _, named := range []string{x.Text, x.Name, x.Desc} {
			d := pooled(shortest, x)
			d.Pool = slices.DeleteFunc(d.Pool, func(y api.Const) bool { return y.Kind == 1 && y.Text == named })
			if len(d.Pool) < len(pooled(shortest, x).Pool) {
				checkRefused(t, d)
			}
		}
	}
	// The class that a member's constant names must be there too, not its text alone.
	for kind, descriptor := range map[int]string{9: "I", 10: "()V", 11: "()V"} {
		c := pooled(shortest, api.Const{Kind: kind, Text: "z", Name: "a", Desc: descriptor})
		c.Pool = slices.DeleteFunc(c.Pool, func(x api.Const) bool { return x == api.Const{Kind: 7, Text: "z"} })
		checkRefused(t, c)
	}
}

// TestConstantZero: it must be there, and be none.
func TestConstantZero(t *testing.T) {
	for _, c := range []api.Class{ordinary(), pooled(shortest)} {
		pool := c.Pool
		for _, zero := range []api.Const{{Kind: 1}, {Kind: 1, Text: "a"}, {Kind: 7, Text: "a"}, {Kind: 2}, {Kind: -1}, {Kind: 256}, {Num: 1}, {Text: "a"}, {Name: "a"}, {Desc: "a"}} {
			c.Pool = slices.Clone(pool)
			c.Pool[0] = zero
			checkRefused(t, c)
		}
		c.Pool = pool[1:]
		checkRefused(t, c)
		for _, none := range [][]api.Const{nil, {}, {{}}, {{}, {}}, {{Kind: 7, Text: "a"}}} {
			c.Pool = none
			checkRefused(t, c)
		}
		c.Pool = slices.Concat([]api.Const{{}}, pool)
		checkRefused(t, c)
	}
	checkRefused(t, api.Class{})
}

// TestWrongConstants: no pool answers them.
func TestWrongConstants(t *testing.T) {
	for _, x := range []api.Const{
		{Kind: 2}, {Kind: 4, Num: 5}, {Kind: 6}, {Kind: 12, Text: "a", Name: "a", Desc: "I"}, {Kind: 255}, {Kind: -1},
		{Kind: 256 + 1, Text: "a"}, {Kind: 256 + 3, Num: 5}, {Kind: 1<<32 + 1, Text: "a"}, {Kind: 1 - 256, Text: "a"}, {Kind: math.MinInt, Text: "a"},
		{Kind: 1, Text: "a", Num: 1}, {Kind: 1, Text: "a", Name: "a"}, {Kind: 1, Text: "a", Desc: "I"},
		{Kind: 3, Num: 1, Text: "a"}, {Kind: 3, Num: 1, Name: "a"}, {Kind: 3, Num: 1, Desc: "a"},
		{Kind: 3, Num: 1 << 31}, {Kind: 3, Num: -1<<31 - 1}, {Kind: 3, Num: 1<<32 + 1}, {Kind: 3, Num: math.MinInt64},
		{Kind: 5, Num: 1, Text: "a"}, {Kind: 5, Num: 1, Name: "a"}, {Kind: 5, Num: 1, Desc: "a"},
		{Kind: 7, Text: ""}, {Kind: 7, Text: "-"}, {Kind: 7, Text: "<init>"}, {Kind: 7, Text: "["}, {Kind: 7, Text: "[V"}, {Kind: 7, Text: "La;"}, {Kind: 7, Text: strings.Repeat("n", 61)},
		{Kind: 7, Text: "a", Num: 1}, {Kind: 7, Text: "a", Name: "a"}, {Kind: 7, Text: "a", Desc: "I"},
		{Kind: 8, Text: "a", Num: -1}, {Kind: 8, Text: "a", Name: "a"}, {Kind: 8, Text: "a", Desc: "I"},
		{Kind: 9, Text: "a", Name: "a", Desc: "()V"}, {Kind: 9, Text: "a", Name: "<a>", Desc: "I"}, {Kind: 9, Text: "[I", Name: "a", Desc: "I"}, {Kind: 9, Text: "a", Name: "a", Desc: "I", Num: 1},
		{Kind: 10, Text: "a", Name: "a", Desc: "I"}, {Kind: 10, Text: "a", Name: "", Desc: "()V"}, {Kind: 10, Text: "[I", Name: "a", Desc: "()V"}, {Kind: 10, Text: "a", Name: "a", Desc: "()V", Num: 1},
		{Kind: 11, Text: "a", Name: "a", Desc: "(V)V"}, {Kind: 11, Text: "a", Name: "a;", Desc: "()V"}, {Kind: 11, Text: "[I", Name: "a", Desc: "()V"}, {Kind: 11, Text: "a", Name: "a", Desc: "()V", Num: 1},
	} {
		checkRefused(t, pooled(shortest, x))
		// What is wanted may not be found there either.
		c := pooled(shortest)
		c.Pool = slices.Insert(c.Pool, 1, x)
		checkRefused(t, c)
	}
}

func TestNamesOfClasses(t *testing.T) {
	good := []string{"b", "b/c", "I", "$_9", strings.Repeat("n", 60)}
	bad := []string{"", "-", "[I", "[Lb;", "Lb;", "<b>", "b;", "\xff", strings.Repeat("n", 61)}
	for i, name := range append(good, bad...) {
		for _, c := range []api.Class{
			{Name: name, Super: "a"}, {Name: "a", Super: name}, {Name: "a", Super: "a", Ifaces: []string{name}}, {Name: "a", Super: "a", Ifaces: []string{"a", name}},
			withMethods(api.Method{Name: "m", Desc: "()V", Rows: []api.Row{{Class: name}}}),
		} {
			// A row without a class is one for all.
			forAll := name == "" && len(c.Methods) > 0
			checkEither(t, pooled(c), i < len(good) || forAll)
		}
	}
}

// checkEither: there is such a file, or none.
func checkEither(t *testing.T, c api.Class, written bool) {
	t.Helper()
	if written {
		checkWritten(t, c)
		return
	}
	checkRefused(t, c)
}

func TestNamesOfMembers(t *testing.T) {
	for _, x := range []struct {
		name          string
		field, method bool
	}{
		{"f", true, true}, {"a/b$_9", true, true}, {strings.Repeat("n", 60), true, true}, {"<init>", false, true}, {"<", false, true}, {"a>", false, true},
		{"", false, false}, {"-", false, false}, {"a;", false, false}, {"[I", false, false}, {"()V", false, false}, {"a\x00", false, false}, {strings.Repeat("n", 61), false, false},
	} {
		checkEither(t, pooled(withFields(api.Field{Name: x.name, Desc: "I"})), x.field)
		checkEither(t, pooled(withMethods(api.Method{Name: x.name, Desc: "()V"})), x.method)
	}
}

func TestDescriptorsOfMembers(t *testing.T) {
	for _, x := range []struct {
		descriptor    string
		field, method bool
	}{
		{"I", true, false}, {"J", true, false}, {"La;", true, false}, {"[[[[[[[[J", true, false},
		{"()V", false, true}, {"(I[JLa;)[La;", false, true}, {"(" + strings.Repeat("J", 20) + ")I", false, true},
		{"", false, false}, {"V", false, false}, {"N", false, false}, {"L;", false, false}, {"II", false, false}, {"[[[[[[[[[J", false, false},
		{"(V)I", false, false}, {"()", false, false}, {"()VV", false, false}, {"(" + strings.Repeat("J", 21) + ")I", false, false},
	} {
		checkEither(t, pooled(withFields(api.Field{Name: "f", Desc: x.descriptor})), x.field)
		checkEither(t, pooled(withMethods(api.Method{Name: "f", Desc: x.descriptor})), x.method)
	}
}

func TestTypesOfFrames(t *testing.T) {
	good := []string{"", "I", "J", "N", "La;", "LI;", "Lb/c;", "L" + strings.Repeat("n", 60) + ";", "[I", "[[La;", "[[[[[[[[J"}
	bad := []string{
		"V", "a", "L", ";", "L;", "La", "a;", "Ma;", "La;;", "LLa;;", "L[I;", "L-;", "L" + strings.Repeat("n", 61) + ";", "[", "[V", "[N", "[L;", "[a", "[La", "[[[[[[[[[J",
		"II", "NN", "LN", "()V", "i", " I", "\x00", "\x01", "\x04",
	}
	for i, s := range append(good, bad...) {
		// Each text that could be meant is there, as a text and as a class.
		consts := []api.Const{{Kind: 1, Text: s}}
		for _, text := range []string{s, strings.Trim(s, "L;"), strings.TrimPrefix(s, "L"), strings.TrimSuffix(s, ";"), strings.TrimPrefix(s, "[")} {
			if c := pooled(shortest, api.Const{Kind: 7, Text: text}); wantWrite(c) != nil {
				consts = append(consts, api.Const{Kind: 7, Text: text})
			}
		}
		for _, f := range []api.Frame{{Locals: []string{s}}, {Stack: []string{s}}, {Locals: []string{"I", s, "J"}, Stack: []string{"N"}}, {Locals: []string{"I"}, Stack: []string{"J", s}}} {
			c := pooled(withMethods(api.Method{Name: "m", Desc: "()V", Frames: []api.Frame{f}}))
			if i >= len(good) {
				c = withMethods(api.Method{Name: "m", Desc: "()V", Frames: []api.Frame{f}})
				c.Pool = pooled(withMethods(api.Method{Name: "m", Desc: "()V"}), consts...).Pool
			}
			checkEither(t, c, i < len(good))
		}
	}
}

// TestFlags: those that fit, of all that there may be in two bytes, and of some that there may not.
func TestFlags(t *testing.T) {
	var all []int
	for flags := range 65536 {
		if flags&^0x1f08 == 0 || flags&(flags-1) == 0 {
			all = append(all, flags, flags+65536, flags-65536)
		}
	}
	fields := map[int][]int{0: {0, 8}, abstractFlag: {0, 8}, interfaceFlags: {8}}
	methods := map[int][]int{0: {0, 8}, abstractFlag: {0, 8, 0x400}, interfaceFlags: {0x400}}
	for _, class := range all {
		_, fits := fields[class]
		checkFlags(t, pooled(shortest), class, fits)
	}
	for class := range fields {
		for _, flags := range all {
			checkFlags(t, pooled(withFields(api.Field{Flags: flags, Name: "f", Desc: "I"})), class, slices.Contains(fields[class], flags))
			checkFlags(t, pooled(withMethods(api.Method{Flags: flags, Name: "f", Desc: "()V"})), class, slices.Contains(methods[class], flags))
		}
	}
}

// checkFlags gives the class its flags.
func checkFlags(t *testing.T, c api.Class, flags int, fits bool) {
	t.Helper()
	c.Flags = flags
	checkEither(t, c, fits)
}

// TestAbstractMethods: they have nothing but name and descriptor.
func TestAbstractMethods(t *testing.T) {
	for _, class := range []int{abstractFlag, interfaceFlags} {
		for _, m := range []api.Method{
			{Stack: 1}, {Locals: 1}, {Code: []byte{0xb1}}, {Rows: []api.Row{{}}}, {Frames: []api.Frame{{}}}, {Stack: -1}, {Locals: 65536},
		} {
			c := withMethods(api.Method{Flags: abstractFlag, Name: "m", Desc: "()V"})
			c.Flags = class
			checkWritten(t, pooled(c))
			m.Flags, m.Name, m.Desc = abstractFlag, "m", "()V"
			c.Methods[0] = m
			checkRefused(t, pooled(c))
		}
	}
}

func TestMembersTwice(t *testing.T) {
	f, otherType, otherFlags := api.Field{Name: "f", Desc: "I"}, api.Field{Name: "f", Desc: "J"}, api.Field{Flags: staticFlag, Name: "f", Desc: "I"}
	g := api.Field{Name: "g", Desc: "I"}
	checkWritten(t, pooled(withFields(f, g)))
	for _, fields := range [][]api.Field{{f, f}, {f, otherType}, {otherFlags, f}, {f, g, f}, {g, f, f}} {
		checkRefused(t, pooled(withFields(fields...)))
	}
	m, n := api.Method{Name: "m", Desc: "()V"}, api.Method{Name: "n", Desc: "()V"}
	otherDesc, long := api.Method{Name: "m", Desc: "(I)V"}, api.Method{Name: "m", Desc: "()V", Stack: 3, Code: []byte{1}}
	checkWritten(t, pooled(withMethods(m, n, otherDesc)))
	for _, methods := range [][]api.Method{{m, m}, {long, m}, {m, n, m}, {m, otherDesc, n, otherDesc}} {
		checkRefused(t, pooled(withMethods(methods...)))
	}
	c := withFields(f)
	c.Methods = []api.Method{{Name: "f", Desc: "()V"}}
	checkWritten(t, pooled(c))
}
