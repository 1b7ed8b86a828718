package lower_test

import (
	"fmt"
	"slices"
	"strings"
	"testing"

	"reglet/api"
	"reglet/check"
	"reglet/code"
	"reglet/desc"
	"reglet/flow"
	"reglet/ins"
	"reglet/kin"
	"reglet/link"
	"reglet/lower"
)

// A program is a world with its methods' code, of both sorts, by their numbers.
type program struct {
	world *link.World
	stack map[int]*stackMethod
	funcs map[int]api.Func
}

// linked is the program of classes that are taken; each method is looked at.
func linked(t *testing.T, classes ...*told) *program {
	t.Helper()
	var l []api.Class
	for _, c := range classes {
		l = append(l, c.class)
	}
	return programOf(t, l)
}

func programOf(t *testing.T, l []api.Class) *program {
	t.Helper()
	w, e := link.New(l)
	if e != api.OK {
		t.Fatalf("%v: %s", e, short(refused(l)))
	}
	p := &program{w, map[int]*stackMethod{}, map[int]api.Func{}}
	for id := range w.Methods() {
		known, m, _ := w.Method(id)
		f, e := lower.Method(w, id)
		if known.Abstract || known.Native >= 0 {
			checkNone(t, w, id)
			continue
		}
		if e != api.OK {
			t.Fatalf("%s.%s: %v", known.Class, known.Name, e)
		}
		c, _ := w.Tree().Class(known.Class)
		ops, _ := code.Decode(m.Code)
		p.stack[id], p.funcs[id] = &stackMethod{m, c.Pool, ops}, f
		checkForm(t, p, known, id)
	}
	return p
}

// short is a thing as a text, cut off where it is long.
func short(x any) string {
	text := fmt.Sprintf("%+v", x)
	return text[:min(len(text), 2000)]
}

// refused are the methods that aren't taken; all classes, if it is none of these.
func refused(l []api.Class) any {
	var methods []api.Method
	tree, e := kin.New(l)
	for _, c := range l {
		for _, m := range c.Methods {
			if _, e := check.Method(tree, c, m); e != api.OK && m.Flags&abstractFlag == 0 {
				methods = append(methods, m)
			}
		}
	}
	if e != api.OK || len(methods) == 0 {
		return l
	}
	return methods
}

// checkNone: there is no function of that number.
func checkNone(t *testing.T, w *link.World, id int) {
	t.Helper()
	f, e := lower.Method(w, id)
	if e != argError || f.Regs != nil || f.Params != nil || f.Ret != 0 || f.Code != nil || f.Rows != nil {
		t.Errorf("Method(%d) = %s, %v", id, short(f), e)
	}
}

// checkForm: is the function as the chapter says of its form?
func checkForm(t *testing.T, p *program, known api.Known, id int) {
	t.Helper()
	f, m := p.funcs[id], p.stack[id]
	name := known.Class + "." + known.Name + known.Desc
	if e := ins.Check(f); e != api.OK {
		t.Errorf("%s: %v: %s", name, e, short(f))
	}
	if !flow.Set(f) {
		t.Errorf("%s reads what isn't set: %s", name, short(f))
	}
	params, gives, _ := desc.Method(known.Desc)
	var want []int
	if !known.Static {
		want = append(want, 3)
	}
	for _, param := range params {
		want = append(want, desc.Kind(param))
	}
	var got []int
	for _, r := range f.Params {
		got = append(got, f.Regs[r])
	}
	if !slices.Equal(got, want) || f.Ret != desc.Kind(gives) {
		t.Errorf("%s has Params of the kinds %v, and gives back %d: %s", name, got, f.Ret, short(f))
	}
	if most := 3 * (m.Stack + m.Locals + 2); len(f.Regs) > most {
		t.Errorf("%s has %d registers, and may have %d", name, len(f.Regs), most)
	}
	checkNumbers(t, p, id, name)
}

// numbersOf are the numbers, names and types that the stack code of a method leads to, as register code tells them.
func numbersOf(w *link.World, m *stackMethod) []string {
	var l []string
	add := func(op int, what any) { l = append(l, fmt.Sprint(op, " ", what)) }
	for _, x := range m.ops {
		var c api.Const
		if code.Size(x.Code) == 3 && !code.Leads(x.Code) && x.Code != 17 && x.Code != 132 {
			c = m.pool[x.A]
		}
		_, isNative := map[string]int{"String": 0, "Sys": 0}[c.Text]
		switch {
		case x.Code == 19 && c.Kind == 8:
			add(api.OpText, c.Text)
		case x.Code >= 178 && x.Code <= 181:
			op := []int{api.OpGetStatic, api.OpPutStatic, api.OpGetField, api.OpPutField}[x.Code-178]
			add(op, w.Word(c.Text, c.Name, c.Desc))
		case x.Code >= 182 && x.Code <= 184 && isNative:
			own := []string{"print(I)V", "print(J)V", "print(LString;)V", "exit(I)V", "length()I", "charAt(I)I"}
			add(api.OpCallNative, slices.Index(own, c.Name+c.Desc))
		case x.Code == 182:
			add(api.OpCallVirtual, w.Slot(c.Text, c.Name, c.Desc))
		case x.Code == 183, x.Code == 184:
			add(api.OpCall, w.Find(c.Text, c.Name, c.Desc))
		case x.Code == 185:
			add(api.OpCallIface, c.Name+c.Desc)
		case x.Code == 187:
			add(api.OpNew, w.Class(c.Text))
		case x.Code == 188:
			add(api.OpNewArray, map[int]string{10: "I", 11: "J"}[x.A])
		case x.Code >= 189 && x.Code <= 193 && c.Kind == 7:
			op := map[int]int{189: api.OpNewArray, 192: api.OpCastCheck, 193: api.OpInstance}[x.Code]
			add(op, desc.Of(c.Text))
		}
	}
	return l
}

// checkNumbers: a function leads to what the stack code leads to, and to nothing else.
func checkNumbers(t *testing.T, p *program, id int, name string) {
	t.Helper()
	var got []string
	for _, x := range p.funcs[id].Code {
		switch x.Op {
		case api.OpGetStatic, api.OpPutStatic, api.OpGetField, api.OpPutField, api.OpCall, api.OpCallVirtual, api.OpCallNative, api.OpNew:
			got = append(got, fmt.Sprint(x.Op, " ", x.Num))
		case api.OpText, api.OpCallIface, api.OpNewArray, api.OpCastCheck, api.OpInstance:
			got = append(got, fmt.Sprint(x.Op, " ", x.Ref))
		}
	}
	want := numbersOf(p.world, p.stack[id])
	slices.Sort(got)
	slices.Sort(want)
	if !slices.Equal(got, want) {
		t.Errorf("%s leads to %s, want %s", name, short(got), short(want))
	}
}

// id is the number of a method that is told as a.f()V.
func (p *program) id(method string) int {
	class, rest, _ := strings.Cut(method, ".")
	name, d, _ := strings.Cut(rest, "(")
	id := p.world.Find(class, name, "("+d)
	if id < 0 {
		panic(method)
	}
	return id
}

// An argument is an int (of 32 bits), an int64, a *thing, or a function that makes one in a machine.
type argument any

func (m *machine) argument(a argument) any {
	switch a := a.(type) {
	case nil:
		return nothing
	case int:
		return int32(a)
	case func(*machine) any:
		return a(m)
	}
	return a
}

// An outcome is what a run did, and how it ended.
type outcome struct {
	end   string
	done  []string
	steps int
	codes map[int]int
}

// outcome of a method, by either code.
func (p *program) outcome(s setting, b body, id int, args []argument) outcome {
	m := p.machine(s, b)
	var values []any
	for _, a := range args {
		values = append(values, m.argument(a))
	}
	end := m.run(id, values)
	return outcome{end, m.done, m.steps, m.codes}
}

// wide is a setting in which ordinary methods end.
var wide = setting{fuel: 20000, depth: 50}

// So many of a function's instructions may be gone through for each one of the stack code.
const mostForOne = 8

// same does a method by both codes: it must do the same, and end the same. Answered is what the stack code does.
func (p *program) same(t *testing.T, s setting, method string, args ...argument) outcome {
	t.Helper()
	return p.sameOf(t, s, p.id(method), args)
}

func (p *program) sameOf(t *testing.T, s setting, id int, args []argument) outcome {
	t.Helper()
	want := p.outcome(s, stackCode, id, args)
	s.fuel *= mostForOne
	got := p.outcome(s, registerCode, id, args)
	if want.end == isUnderWay {
		// The registers' code may have gone on farther.
		got.end = isUnderWay
		got.done = got.done[:min(len(got.done), len(want.done))]
	} else if got.steps > mostForOne*want.steps {
		t.Errorf("%d instructions for %d", got.steps, want.steps)
	}
	if got.end != want.end || !slices.Equal(got.done, want.done) {
		known, _, _ := p.world.Method(id)
		t.Fatalf("%s.%s%s:\nregisters: %s, and it %s\nstack: %s, and it %s\n%s\n%s", known.Class, known.Name, known.Desc, short(got.done), got.end, short(want.done), want.end, short(p.stack[id].ops), short(p.funcs[id]))
	}
	return want
}

// ends: a method ends so, by both codes; of what it does on the way the last ones are told.
func (p *program) ends(t *testing.T, method string, args []argument, end string, done ...string) {
	t.Helper()
	p.endsBy(t, wide, method, args, end, done...)
}

func (p *program) endsBy(t *testing.T, s setting, method string, args []argument, end string, done ...string) {
	t.Helper()
	o := p.same(t, s, method, args...)
	if len(done) == 0 {
		done = o.done
	}
	if o.end != end || !slices.Equal(o.done[max(0, len(o.done)-len(done)):], done) {
		t.Errorf("%s of %v %s, having done %q, want that it %s, and %q", method, args, o.end, o.done, end, done)
	}
}

// with are a method's arguments.
func with(args ...argument) []argument { return args }
