package link_test

import (
	"slices"
	"strings"
	"testing"

	"reglet/api"
	"reglet/desc"
	"reglet/link"
)

// The flags and errors by their numbers: api's names could be changed with the program.
const (
	staticFlag     = 8
	interfaceFlag  = 0x200
	abstractFlag   = 0x400
	interfaceFlags = interfaceFlag + abstractFlag

	argError      = api.Errno(1)
	longError     = api.Errno(2)
	constError    = api.Errno(12)
	nameError     = api.Errno(20)
	descError     = api.Errno(21)
	flagsError    = api.Errno(22)
	twiceError    = api.Errno(23)
	codeError     = api.Errno(40)
	placeError    = api.Errno(41)
	kinError      = api.Errno(50)
	circleError   = api.Errno(51)
	frameError    = api.Errno(60)
	stackError    = api.Errno(61)
	typeError     = api.Errno(62)
	memberError   = api.Errno(70)
	overError     = api.Errno(71)
	abstractError = api.Errno(72)
)

// owns is how many classes and methods the machine has of its own.
const (
	ownClasses = 13
	ownMethods = 6
)

// told are classes out of lines such as: abstract a < b i j: x I, static s J, f ()V, abstract g ()I. (Without <: below Object.) What isn't abstract has code that is taken.
func told(lines ...string) []api.Class {
	var l []api.Class
	for _, line := range lines {
		head, members, _ := strings.Cut(line, ": ")
		flags, words := cutFlags(strings.Fields(head))
		c := api.Class{Flags: flags, Name: words[0], Super: "Object"}
		if len(words) > 1 {
			c.Super, c.Ifaces = words[2], words[3:]
		}
		if members != "" {
			for member := range strings.SplitSeq(members, ", ") {
				addMember(&c, member)
			}
		}
		l = append(l, c)
	}
	return l
}

// cutFlags are the flags that words begin with, and what is behind them.
func cutFlags(words []string) (int, []string) {
	flags := 0
	for {
		flag, is := map[string]int{"static": staticFlag, "abstract": abstractFlag, "interface": interfaceFlags}[words[0]]
		if !is {
			return flags, words
		}
		flags, words = flags|flag, words[1:]
	}
}

func addMember(c *api.Class, member string) {
	flags, words := cutFlags(strings.Fields(member))
	if words[1][0] == '(' {
		c.Methods = append(c.Methods, method(flags, words[0], words[1]))
	} else {
		c.Fields = append(c.Fields, api.Field{Flags: flags, Name: words[0], Desc: words[1]})
	}
}

// method is one that is taken, with as much code as it needs.
func method(flags int, name, d string) api.Method {
	m := api.Method{Flags: flags, Name: name, Desc: d}
	if flags&abstractFlag != 0 {
		return m
	}
	params, gives, e := desc.Method(d)
	if e != api.OK {
		panic(d)
	}
	m.Stack, m.Locals = 1, len(params)+1
	switch gives[0] {
	case 'V':
		m.Code = []byte{177}
	case 'I':
		m.Code = []byte{3, 172}
	case 'J':
		m.Code = []byte{9, 173}
	default:
		m.Code = []byte{1, 176}
	}
	return m
}

// worldOf is what New makes of classes that are taken.
func worldOf(t *testing.T, l []api.Class) *link.World {
	t.Helper()
	w, e := link.New(l)
	if e != api.OK || w == nil {
		t.Fatalf("New(%+v) = %v, %v", l, w, e)
	}
	checkReference(t, l)
	return w
}

// checkFault: the classes aren't taken, for that reason.
func checkFault(t *testing.T, want api.Errno, l []api.Class) {
	t.Helper()
	if w, e := link.New(l); w != nil || e != want {
		t.Errorf("New(%+v) = %v, %v, want %v", l, w, e, want)
	}
	checkReference(t, l)
}

func infoOf(t *testing.T, w *link.World, class string) api.Info {
	t.Helper()
	info, there := w.Info(w.Class(class))
	if !there || info.Name != class {
		t.Fatalf("Info of %q: %+v, %v", class, info, there)
	}
	return info
}

// methodText tells a method by its number: a.f()V.
func methodText(w *link.World, number int) string {
	m, _, there := w.Method(number)
	if !there {
		return "none"
	}
	return m.Class + "." + m.Name + m.Desc
}

// slotTexts are the methods in a class's slots.
func slotTexts(t *testing.T, w *link.World, class string) []string {
	t.Helper()
	var texts []string
	for _, number := range infoOf(t, w, class).Slots {
		texts = append(texts, methodText(w, number))
	}
	return texts
}

// checkSlots: a class has these slots, each of them found by the name and descriptor of its method.
func checkSlots(t *testing.T, w *link.World, class string, want ...string) {
	t.Helper()
	if got := slotTexts(t, w, class); !slices.Equal(got, want) {
		t.Errorf("slots of %q: %q, want %q", class, got, want)
	}
	names := infoOf(t, w, class).Names
	if len(names) != len(want) {
		t.Errorf("names of the slots of %q: %v, want %q", class, names, want)
	}
	for slot, text := range want {
		_, text, _ = strings.Cut(text, ".")
		if n, there := names[text]; !there || n != slot {
			t.Errorf("names of the slots of %q: %v, want %q at %d", class, names, text, slot)
		}
		name, d, _ := strings.Cut(text, "(")
		if got := w.Slot(class, name, "("+d); got != slot {
			t.Errorf("Slot(%q, %q) = %d, want %d", class, text, got, slot)
		}
	}
}

// checkWords: the objects of a class have words of these kinds.
func checkWords(t *testing.T, w *link.World, class string, want ...int) {
	t.Helper()
	if got := infoOf(t, w, class).Words; !slices.Equal(got, want) {
		t.Errorf("words of %q: %v, want %v", class, got, want)
	}
}

// checkWord: a class's name and a field's lead to that word, or static.
func checkWord(t *testing.T, w *link.World, class, name, d string, want int) {
	t.Helper()
	if got := w.Word(class, name, d); got != want {
		t.Errorf("Word(%q, %q, %q) = %d, want %d", class, name, d, got, want)
	}
}

// checkFind: a class's name and a method's lead to that method; "none": to none.
func checkFind(t *testing.T, w *link.World, class, name, d, want string) {
	t.Helper()
	number := w.Find(class, name, d)
	if got := methodText(w, number); got != want || (number == -1) != (want == "none") {
		t.Errorf("Find(%q, %q, %q) = %d, which is %s, want %s", class, name, d, number, got, want)
	}
}
