package lower_test

import (
	"fmt"
	"slices"
	"strconv"

	"reglet/desc"
)

// A value is an int32, an int64, or a *thing (nil: nothing). nil alone is what nobody wrote.

// A thing lies in a machine's memory.
type thing struct {
	// name tells it from others, in what was done.
	name string
	typ  string
	// An object's words, or an array's elements.
	words []any
	// A string's bytes.
	text string
}

// nothing is where a reference leads nowhere.
var nothing *thing

// valueText tells a value.
func valueText(v any) string {
	switch v := v.(type) {
	case int32:
		return strconv.Itoa(int(v))
	case int64:
		return strconv.FormatInt(v, 10) + "L"
	case *thing:
		if v == nil {
			return "nothing"
		}
		return v.name
	}
	panic("nobody wrote it")
}

// kindOf is the kind of a value.
func kindOf(v any) int {
	switch v.(type) {
	case int32:
		return 1
	case int64:
		return 2
	case *thing:
		return 3
	}
	panic("nobody wrote it")
}

// valueOf is the number of a kind that a word stands for.
func valueOf(kind int, word int64) any {
	if kind == 1 {
		return int32(word)
	}
	return word
}

// wordOf is a number as a word.
func wordOf(v any) int64 {
	if n, is := v.(int32); is {
		return int64(n)
	}
	return v.(int64)
}

func zeroOf(kind int) any {
	if kind == 3 {
		return nothing
	}
	return valueOf(kind, 0)
}

// A setting says what a machine has, beside its program.
type setting struct {
	// How many instructions may be done, and how many calls may be under way.
	fuel, depth int
	// The numbers of the things there is no room for, among those that were to be made.
	full []int
}

// A body does a method of a machine's world: it answers what that gives back (nil: nothing), or what it throws.
type body func(m *machine, id int, args []any) (any, *thing)

// A machine has what both codes have: things, statics, calls, and the machine's own methods.
type machine struct {
	*program
	setting
	body body

	made, underWay, steps int

	statics       []any
	faults, texts map[string]*thing
	// What was made, written, said and thrown, in order.
	done []string
	// How often each code was done without a throw.
	codes map[int]int
}

func (p *program) machine(s setting, b body) *machine {
	m := &machine{program: p, setting: s, body: b, faults: map[string]*thing{}, texts: map[string]*thing{}, codes: map[int]int{}}
	for _, kind := range p.world.Statics() {
		m.statics = append(m.statics, zeroOf(kind))
	}
	return m
}

// How a run ends ahead of its method.
type (
	exits    struct{ number int32 }
	underWay struct{}
)

const isUnderWay = "is under way"

// run does a method, and tells how it ends.
func (m *machine) run(id int, args []any) (end string) {
	defer func() {
		switch x := recover().(type) {
		case nil:
		case exits:
			end = fmt.Sprint("exits ", x.number)
		case underWay:
			end = isUnderWay
		default:
			panic(x)
		}
	}()
	given, thrown := m.enter(id, args)
	switch {
	case thrown != nil:
		return "throws " + thrown.name
	case given == nil:
		return "returns"
	}
	return "returns " + valueText(given)
}

// step is one instruction.
func (m *machine) step() {
	if m.steps == m.fuel {
		panic(underWay{})
	}
	m.steps++
}

func (m *machine) do(what ...any) { m.done = append(m.done, fmt.Sprint(what...)) }

// enter is a call.
func (m *machine) enter(id int, args []any) (any, *thing) {
	if m.underWay == m.depth {
		return nil, m.fault("DepthFault")
	}
	m.underWay++
	defer func() { m.underWay-- }()
	return m.body(m, id, args)
}

// fault throws the machine's one thing of a class.
func (m *machine) fault(name string) *thing {
	if m.faults[name] == nil {
		m.faults[name] = m.object(name, name)
	}
	return m.throw(m.faults[name])
}

func (m *machine) throw(t *thing) *thing {
	m.do("throws ", t.name)
	return t
}

// object is one of a class, of zeros.
func (m *machine) object(name, class string) *thing {
	t := &thing{name: name, typ: "L" + class + ";"}
	info, _ := m.world.Info(m.world.Class(class))
	for _, kind := range info.Words {
		t.words = append(t.words, zeroOf(kind))
	}
	return t
}

// array is one of elements of a type, of zeros.
func (m *machine) array(name, element string, n int) *thing {
	return &thing{name: name, typ: "[" + element, words: slices.Repeat([]any{zeroOf(desc.Kind(element))}, n)}
}

// Of arrays with more elements there is no room for any.
const mostElements = 5000

// next is the name of the next thing that is made; a fault, if there is no room for it.
func (m *machine) next(typ string, n int) (string, *thing) {
	m.made++
	if slices.Contains(m.full, m.made) || n > mostElements {
		return "", m.fault("MemoryFault")
	}
	name := fmt.Sprint("#", m.made)
	m.do("makes ", name, " ", typ, " ", n)
	return name, nil
}

func (m *machine) newObject(class string) (*thing, *thing) {
	name, thrown := m.next(class, 0)
	if thrown != nil {
		return nil, thrown
	}
	return m.object(name, class), nil
}

func (m *machine) newArray(element string, n int) (*thing, *thing) {
	name, thrown := m.next("["+element, n)
	if thrown != nil {
		return nil, thrown
	}
	return m.array(name, element, n), nil
}

// string is the string with a text, always the same.
func (m *machine) string(text string) *thing {
	if m.texts[text] == nil {
		m.texts[text] = &thing{name: strconv.Quote(text), typ: "LString;", text: text}
	}
	return m.texts[text]
}

func (m *machine) set(t *thing, i int, v any) {
	if kindOf(v) != kindOf(t.words[i]) {
		panic("a word changes its kind")
	}
	m.do("word ", i, " of ", t.name, " is ", valueText(v))
	t.words[i] = v
}

func (m *machine) setStatic(i int, v any) {
	if kindOf(v) != kindOf(m.statics[i]) {
		panic("a static changes its kind")
	}
	m.do("static ", i, " is ", valueText(v))
	m.statics[i] = v
}

// isOf: is a thing of a type?
func (m *machine) isOf(t *thing, typ string) bool { return m.world.Tree().Fits(t.typ, typ) }

// isCaughtBy: is it of a row's class?
func (m *machine) isCaughtBy(t *thing, class string) bool {
	return class == "" || m.isOf(t, "L"+class+";")
}

// native does one of the machine's own methods.
func (m *machine) native(number int, args []any) (any, *thing) {
	switch number {
	case 0:
		m.do("says ", args[0].(int32))
	case 1:
		m.do("says ", args[0].(int64))
	case 2:
		if args[0].(*thing) == nil {
			return nil, m.fault("NullFault")
		}
		m.do("says ", args[0].(*thing).text)
	case 3:
		panic(exits{args[0].(int32)})
	case 4:
		return int32(len(args[0].(*thing).text)), nil
	case 5:
		text, i := args[0].(*thing).text, args[1].(int32)
		if i < 0 || int(i) >= len(text) {
			return nil, m.fault("BoundsFault")
		}
		return int32(text[i]), nil
	default:
		panic(number)
	}
	return nil, nil
}

// method does any method, as a call of it by its number.
func (m *machine) method(id int, args []any) (any, *thing) {
	known, _, there := m.world.Method(id)
	switch {
	case !there || known.Abstract:
		panic("there is no such method")
	case known.Native >= 0:
		return m.native(known.Native, args)
	}
	return m.enter(id, args)
}

// inSlot does the method that is in a slot of an object's class.
func (m *machine) inSlot(slot int, args []any) (any, *thing) {
	info, there := m.world.Info(m.world.Class(desc.Class(args[0].(*thing).typ)))
	if !there {
		panic("there is no such class")
	}
	return m.method(info.Slots[slot], args)
}

// named does the method in the slot of a name and a descriptor, one behind the other.
func (m *machine) named(text string, args []any) (any, *thing) {
	info, _ := m.world.Info(m.world.Class(desc.Class(args[0].(*thing).typ)))
	slot, there := info.Names[text]
	if !there {
		panic("there is no slot " + text)
	}
	return m.inSlot(slot, args)
}
