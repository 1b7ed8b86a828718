package desc_test

import (
	"slices"
	"strings"
	"testing"

	"reglet/api"
	"reglet/desc"
)

// letters is a text of so many bytes that any name may have.
func letters(n int) string { return strings.Repeat("a", n) }

func TestName(t *testing.T) {
	for _, c := range []struct {
		name          string
		s             string
		class, method bool
	}{
		{"empty", "", false, false},
		{"one byte", "a", true, true},
		{"60 bytes", letters(60), true, true},
		{"61 bytes", letters(61), false, false},
		{"all kinds of bytes", "azAZ09_$/", true, true},
		{"a digit in front", "9a", true, true},
		{"nothing but /", "//", true, true},
		{"< and >", "<init>", false, true},
		{"< alone", "<", false, true},
		{"> behind", "a>", false, true},
		{"60 bytes with < and >", "<" + letters(58) + ">", false, true},
		{"61 bytes with < and >", "<" + letters(59) + ">", false, false},
		{"a space behind", "a ", false, false},
		{"a line's end behind", "a\n", false, false},
		{"a 0 byte", "a\x00", false, false},
		{"-", "a-b", false, false},
		{".", "a.b", false, false},
		{"; of a descriptor", "La;", false, false},
		{"[ of a descriptor", "[I", false, false},
		{"a letter of more bytes", "\u00e9", false, false},
		{"a digit of more bytes", "\u0663", false, false},
		{"no whole rune", "a\xc3", false, false},
		{"the highest byte", "\xff", false, false},
		{"20 runes of 60 bytes", strings.Repeat("\u20ac", 20), false, false},
		{"a wrong byte at the end of 60", letters(59) + "-", false, false},
		{"a wrong byte among a method's", "<in-it>", false, false},
	} {
		if got := desc.Name(c.s, false); got != c.class {
			t.Errorf("%s: Name(%q, false) = %v", c.name, c.s, got)
		}
		if got := desc.Name(c.s, true); got != c.method {
			t.Errorf("%s: Name(%q, true) = %v", c.name, c.s, got)
		}
	}
}

func TestNameOfEachByte(t *testing.T) {
	const any = "abcdefghijklmnopqrstuvwxyzABCDEFGHIJKLMNOPQRSTUVWXYZ0123456789_$/"
	for b := range 256 {
		one := string([]byte{byte(b)})
		class := strings.Contains(any, one)
		method := strings.Contains(any+"<>", one)
		for _, s := range []string{one, "a" + one, one + "a", "a" + one + "a"} {
			if desc.Name(s, false) != class || desc.Name(s, true) != method {
				t.Errorf("Name(%q, ..) = %v, %v", s, !class, !method)
			}
		}
	}
}

// types and noTypes are texts at the edges of what a type is.
var types = []string{
	"I", "J", "La;", "La/b;", "La/b$_9;", "L/;", "LL;", "LI;",
	"L" + letters(60) + ";",
	"[I", "[J", "[La;", "[[I", "[[[[[[[[I", "[[[[[[[[J", "[[[[[[[[La;",
	"[[[[[[[[L" + letters(60) + ";",
}

var noTypes = []string{
	"", "V", "N", "Z", "i", "j", "L", "[", ";", "a",
	"L;", "La", "La;;", "La;b;", "L;a;", "LL", "L[I;", "L<init>;", "La-b;", "La b;", "L\u00e9;", "la;",
	"L" + letters(61) + ";",
	"II", "IJ", "I ", " I", "I\n", "I\x00", "I;", "aI", "La;I", "ILa;",
	"[V", "[N", "[[", "[[[[[[[[", "[[[[[[[[[", "[[[[[[[[[I", "[[[[[[[[[[I", "[[[[[[[[[La;", "[;", "[L;", "[La", "[II", "I[", "[I[", "[ I", "[a", "]I",
	"[L" + letters(61) + ";",
	"()I", "(I)", "\xff", "\xff\xfe", "L\xff;", "[\xff",
}

func TestType(t *testing.T) {
	for _, s := range types {
		if !desc.Type(s) {
			t.Errorf("Type(%q) = false", s)
		}
	}
	for _, s := range noTypes {
		if desc.Type(s) {
			t.Errorf("Type(%q) = true", s)
		}
	}
}

// checkMethod holds Method's answer against the parts that are wanted; no part behind: ErrDesc, and nothing beside it.
func checkMethod(t *testing.T, s string, params []string, ret string) {
	t.Helper()
	want := api.OK
	if ret == "" {
		params, want = nil, api.ErrDesc
	}
	gotParams, gotRet, e := desc.Method(s)
	if e != want || gotRet != ret || !slices.Equal(gotParams, params) {
		t.Fatalf("Method(%q) = %q, %q, %v, want %q, %q, %v", s, gotParams, gotRet, e, params, ret, want)
	}
}

func TestMethod(t *testing.T) {
	checkMethod(t, "(I[JLa;)V", []string{"I", "[J", "La;"}, "V")
	checkMethod(t, "()V", nil, "V")
	checkMethod(t, "()I", nil, "I")
	checkMethod(t, "(J)J", []string{"J"}, "J")
	checkMethod(t, "(II)[[J", []string{"I", "I"}, "[[J")
	checkMethod(t, "([[[[[[[[I)[[[[[[[[La;", []string{"[[[[[[[[I"}, "[[[[[[[[La;")
	checkMethod(t, "(LI;[LJ;LV;)La/b;", []string{"LI;", "[LJ;", "LV;"}, "La/b;")
	checkMethod(t, "(ILI;I)V", []string{"I", "LI;", "I"}, "V")
	for _, s := range types {
		checkMethod(t, "("+s+")"+s, []string{s}, s)
	}
}

func TestMethodParamsLimit(t *testing.T) {
	for _, s := range types {
		checkMethod(t, "("+strings.Repeat(s, 20)+")V", slices.Repeat([]string{s}, 20), "V")
		checkMethod(t, "("+strings.Repeat(s, 20)+")"+s, slices.Repeat([]string{s}, 20), s)
		checkMethod(t, "("+strings.Repeat(s, 21)+")V", nil, "")
		checkMethod(t, "("+strings.Repeat(s, 22)+")V", nil, "")
		checkMethod(t, "("+strings.Repeat(s, 20)+"V)V", nil, "")
	}
}

func TestMethodWrong(t *testing.T) {
	for _, s := range []string{
		"", "(", ")", "()", ")(", "V", "I", ")V", "(V", "(I", "(I)", "I)V", "(IV", "(I)L", "(I)L;", "(I)La", "(I)[", "(I)[[[[[[[[[I",
		"(V)I", "(V)V", "(N)V", "()N", "()[V", "([)V", "([V)V", "(L)V", "(L;)V", "(La)V", "(La;", "(LaI)V", "(L<a>;)V", "([[[[[[[[[I)V",
		"()VV", "()VI", "()IV", "()II", "()V)", "()V ", " ()V", "( )V", "() V", "()V\n", "()V\x00", "()V;", "()La;;", "()La;I", "()La;V",
		"(())V", "()()V", "((I)V", "(I))V", "(I)(I)V", "(I,J)V", "(I J)V", "(I;)V", "(;)V", "()v", "()i", "(i)V", "[()V", "L()V;",
		"(La)b;)V", "(L(;)V", "\xff", "(\xff)V", "()\xff", "(I\xff)V", "()V\xff", "(L\xff;)V", "(\u20ac)V",
		"(L" + letters(61) + ";)V", "()L" + letters(61) + ";", "()<init>",
	} {
		checkMethod(t, s, nil, "")
	}
	for _, s := range noTypes {
		if s != "V" {
			checkMethod(t, "()"+s, nil, "")
		}
	}
}

func TestMethodAnswersNewMemory(t *testing.T) {
	const s = "(IJ)V"
	first, _, _ := desc.Method(s)
	for i := range first {
		first[i] = "changed"
	}
	checkMethod(t, s, []string{"I", "J"}, "V")
}

func TestKind(t *testing.T) {
	for s, want := range map[string]int{
		"I": 1, "J": 2, "N": 3,
		"L": 3, "L;": 3, "La;": 3, "La": 3, "LI": 3, "L\xff": 3,
		"[": 3, "[I": 3, "[J": 3, "[V": 3, "[[[[[[[[[I": 3, "[\xff": 3,
		"": 0, "V": 0, "II": 0, "JJ": 0, "NN": 0, "IJ": 0, "N;": 0, "I ": 0, " I": 0, "i": 0, "j": 0, "n": 0, "l": 0,
		"aL": 0, "I[": 0, "]": 0, ";": 0, "(I)V": 0, "I\x00": 0, "\xff": 0, "\xffL": 0, "Z": 0, "K": 0, "M": 0,
	} {
		if got := desc.Kind(s); got != want {
			t.Errorf("Kind(%q) = %d, want %d", s, got, want)
		}
	}
	if api.KindInt != 1 || api.KindLong != 2 || api.KindRef != 3 {
		t.Error("the kinds have other numbers")
	}
}

func TestOf(t *testing.T) {
	for s, want := range map[string]string{
		"": "L;", "a": "La;", "a/b": "La/b;", "I": "LI;", "La;": "LLa;;", "V": "LV;", ";": "L;;", "a[": "La[;", "\xff": "L\xff;", " [": "L [;",
		"[": "[", "[I": "[I", "[La;": "[La;", "[[[[[[[[[I": "[[[[[[[[[I", "[\xff": "[\xff",
		letters(61): "L" + letters(61) + ";",
	} {
		if got := desc.Of(s); got != want {
			t.Errorf("Of(%q) = %q, want %q", s, got, want)
		}
	}
}

func TestClass(t *testing.T) {
	for s, want := range map[string]string{
		"La/b;": "a/b", "La;": "a", "L<init>;": "<init>", "LL;": "L", "LLa;;": "La;", "L;;": ";", "La;b;": "a;b", "L[I;": "[I", "L ;": " ", "L\xff;": "\xff",
		"L" + letters(61) + ";": letters(61),
		"":                      "", "L": "", ";": "", "L;": "", "La": "", "a;": "", "la;": "", "aLa;": "", "La; ": "", "La;\n": "", " La;": "", "[La;": "", "I": "", "N": "", "a": "", "abc": "", "\xff": "",
	} {
		if got := desc.Class(s); got != want {
			t.Errorf("Class(%q) = %q, want %q", s, got, want)
		}
	}
}

func TestElement(t *testing.T) {
	for s, want := range map[string]string{
		"[I": "I", "[[J": "[J", "[La;": "La;", "[[": "[", "[V": "V", "[ ": " ", "[\xff": "\xff", "[]": "]", "[[[[[[[[[I": "[[[[[[[[I",
		"": "", "[": "", "I": "", "I[": "", " [I": "", "La;": "", "N": "", "II": "", "]I": "", "\xff[": "",
	} {
		if got := desc.Element(s); got != want {
			t.Errorf("Element(%q) = %q, want %q", s, got, want)
		}
	}
}

func TestLongTexts(t *testing.T) {
	const n = 1 << 20
	for _, c := range []string{"[", "L", ";", "I", "(", ")", "a", "<", "\xff"} {
		long := strings.Repeat(c, n)
		if desc.Name(long, false) || desc.Name(long, true) || desc.Type(long) {
			t.Errorf("a great many %q are taken", c)
		}
		for _, s := range []string{long, "(" + long, "(" + long + ")V", "()" + long, "(L" + long + ";)V"} {
			checkMethod(t, s, nil, "")
		}
		if got := desc.Class("L" + long + ";"); got != long {
			t.Errorf("Class cuts a great many %q to %d bytes", c, len(got))
		}
		if got := desc.Element("[" + long); got != long {
			t.Errorf("Element cuts a great many %q to %d bytes", c, len(got))
		}
	}
}
