package lower_test

import (
	"slices"
	"strconv"
	"strings"

	"reglet/api"
	"reglet/code"
	"reglet/desc"
)

// The flags and errors by their numbers: api's names could be changed with the program.
const (
	staticFlag     = 8
	interfaceFlags = 0x200 + 0x400
	abstractFlag   = 0x400

	argError = api.Errno(1)
)

func numberIn(word string) int {
	n, err := strconv.Atoi(word)
	if err != nil {
		panic(word)
	}
	return n
}

// A told class grows method by method.
type told struct{ class api.Class }

// class is one out of a line such as: abstract a < b i j: x I, static s J. (Without <: below Object.)
func class(line string) *told {
	head, fields, _ := strings.Cut(line, ": ")
	flags, words := cutFlags(strings.Fields(head))
	c := &told{api.Class{Flags: flags, Name: words[0], Super: "Object", Pool: []api.Const{{}}}}
	if len(words) > 1 {
		c.class.Super, c.class.Ifaces = words[2], words[3:]
	}
	for field := range strings.SplitSeq(fields, ", ") {
		if field != "" {
			flags, words := cutFlags(strings.Fields(field))
			c.class.Fields = append(c.class.Fields, api.Field{Flags: flags, Name: words[0], Desc: words[1]})
		}
	}
	return c
}

// cutFlags are the flags that words begin with, and what is behind them.
func cutFlags(words []string) (int, []string) {
	flags := 0
	for {
		flag, is := map[string]int{"static": staticFlag, "abstract": abstractFlag, "interface": interfaceFlags}[words[0]]
		if !is {
			return flags, words
		}
		flags, words = flags|flag, words[1:]
	}
}

// without adds a method without code, such as: abstract f ()V.
func (c *told) without(head string) *told {
	flags, words := cutFlags(strings.Fields(head))
	c.class.Methods = append(c.class.Methods, api.Method{Flags: flags, Name: words[0], Desc: words[1]})
	return c
}

// with adds a method, such as: static f (I)I, with 5 places on the stack and 2 locals (or those told behind the descriptor, as 7/3), but one for each parameter and the object at least.
// Its code is told as in assembled; beside it stand frames (frame place I,La;|I) and rows (row from to at Class), at the places that code has named. The place behind all is named end.
func (c *told) with(head, text string, beside ...string) *told {
	flags, words := cutFlags(strings.Fields(head))
	m := api.Method{Flags: flags, Name: words[0], Desc: words[1], Stack: 5, Locals: 2}
	if len(words) > 2 {
		stack, locals, _ := strings.Cut(words[2], "/")
		m.Stack, m.Locals = numberIn(stack), numberIn(locals)
	}
	params, _, _ := desc.Method(m.Desc)
	m.Locals = max(m.Locals, len(params)+1-flags/staticFlag)
	b, places := c.assembled(text)
	m.Code = b
	place := func(name string) int {
		at, there := places[name]
		if !there {
			panic(name)
		}
		return at
	}
	for _, line := range beside {
		words := append(strings.Fields(line), "")
		switch words[0] {
		case "frame":
			locals, stack, _ := strings.Cut(words[2], "|")
			m.Frames = append(m.Frames, api.Frame{Pc: place(words[1]), Locals: types(locals), Stack: types(stack)})
		case "row":
			m.Rows = append(m.Rows, api.Row{From: place(words[1]), To: place(words[2]), At: place(words[3]), Class: words[4]})
		default:
			panic(line)
		}
	}
	c.class.Methods = append(c.class.Methods, m)
	return c
}

// types are those between commas; none of an empty text.
func types(text string) []string {
	if text == "" {
		return nil
	}
	return strings.Split(text, ",")
}

// assembled are the bytes of instructions, told by their numbers, between commas: a name of the place may stand ahead (try: 108), and what is behind a code is a number, a place's name (@try), or a constant by its kind, which is put into the pool then (field:a.x:I).
func (c *told) assembled(text string) ([]byte, map[string]int) {
	var ops []api.Op
	places, names := map[string]int{}, map[int]string{}
	at := 0
	for part := range strings.SplitSeq(text, ",") {
		words := strings.Fields(part)
		if name, is := strings.CutSuffix(words[0], ":"); is {
			places[name] = at
			words = words[1:]
		}
		op := api.Op{Pc: at, Code: numberIn(words[0])}
		if len(words) > 1 {
			op.A = c.operand(strings.Join(words[1:], " "), len(ops), names)
		}
		if len(words) > 2 && op.Code == 132 {
			op.A, op.B = numberIn(words[1]), numberIn(words[2])
		}
		ops = append(ops, op)
		at += code.Size(op.Code)
	}
	places["end"] = at
	for i, name := range names {
		ops[i].A = places[name]
	}
	b, e := code.Encode(ops)
	if e != api.OK {
		panic(text)
	}
	return b, places
}

// operand is what a word behind a code tells; of the name of a place, which may come later, it is noted whose it is.
func (c *told) operand(word string, op int, names map[int]string) int {
	if name, is := strings.CutPrefix(word, "@"); is {
		names[op] = name
		return 0
	}
	if kind, rest, is := strings.Cut(word, ":"); is {
		return c.number(constant(kind, rest))
	}
	first, _, _ := strings.Cut(word, " ")
	return numberIn(first)
}

// number is a constant's in the pool.
func (c *told) number(x api.Const) int {
	if at := slices.Index(c.class.Pool, x); at > 0 {
		return at
	}
	c.class.Pool = append(c.class.Pool, x)
	return len(c.class.Pool) - 1
}

// constant is one of a kind: what it has is told as 5, hi, a, a.x:I or a.f:()V.
func constant(kind, rest string) api.Const {
	kinds := map[string]int{"int": 3, "long": 5, "class": 7, "string": 8, "field": 9, "method": 10, "iface": 11}
	x := api.Const{Kind: kinds[kind], Text: rest}
	switch x.Kind {
	case 3, 5:
		n, err := strconv.ParseInt(rest, 10, 64)
		if err != nil {
			panic(rest)
		}
		x.Num, x.Text = n, ""
	case 9, 10, 11:
		class, member, _ := strings.Cut(rest, ".")
		x.Text = class
		x.Name, x.Desc, _ = strings.Cut(member, ":")
	case 0:
		panic(kind)
	}
	return x
}
