package check_test

import (
	"reflect"
	"slices"
	"strconv"
	"strings"
	"testing"

	"reglet/api"
	"reglet/check"
	"reglet/code"
	"reglet/desc"
	"reglet/kin"
)

// The reference reads the chapter's table as words, one behind the other. -T pops T, +T pushes T, -ref, -refs (references' array, or N), -array (or N) and -any pop what is told so; +1 and +2 push what was popped first and second, +element what the array popped last has, +local and has:T are of local A, which is:1 makes what was popped first; ?T asks that T is known, !62 is an error. Words that begin with a small letter are put together by an instruction's constant.
const table = `
0 167 :
1 : +N
2 3 4 5 6 7 8 16 17 : +I
9 10 : +J
19 : constant
21 : has:I +local
22 : has:J +local
25 : has:ref +local
54 : -I is:1
55 : -J is:1
58 : -ref is:1
46 : -I -[I +I
47 : -I -[J +J
50 : -I -refs +element
79 : -I -I -[I
80 : -J -I -[J
83 : -ref -I -refs
87 : -any
89 : -any +1 +1
90 : -any -any +1 +2 +1
95 : -any -any +1 +2
132 : has:I
96 100 104 108 112 120 122 124 126 128 130 : -I -I +I
97 101 105 109 113 127 129 131 : -J -J +J
121 123 125 : -I -J +J
148 : -J -J +I
116 145 146 147 : -I +I
117 : -J +J
133 : -I +J
136 : -J +I
153 154 155 156 157 158 : -I
159 160 161 162 163 164 : -I -I
165 166 : -ref -ref
198 199 : -ref
172 173 176 177 : return
178 179 180 181 : field
182 183 184 185 : call
187 : new
188 : numbers
189 : refs
190 : -array +I
191 : -LThrowable;
192 : cast
193 : is
`

// words are each code's.
var words = func() map[int][]string {
	m := map[int][]string{}
	for line := range strings.Lines(strings.TrimSpace(table)) {
		codes, effect, _ := strings.Cut(line, ":")
		for _, c := range strings.Fields(codes) {
			m[numberIn(c)] = strings.Fields(effect)
		}
	}
	return m
}()

// A model is what the reference knows of a method.
type model struct {
	tree   *kin.Tree
	class  api.Class
	method api.Method
	ops    []api.Op
	frames map[int]check.State
}

// word is a fault as a word.
func word(e api.Errno) []string { return []string{"!" + strconv.Itoa(int(e))} }

// wordsOf are the words of an instruction, with what its constant says.
func (m *model) wordsOf(op api.Op) []string {
	w := words[op.Code]
	if len(w) != 1 {
		return w
	}
	switch w[0] {
	case "constant":
		return m.constantWords(op)
	case "return":
		return m.returnWords(op)
	case "field":
		return m.fieldWords(op)
	case "call":
		return m.callWords(op)
	case "new", "refs", "cast", "is":
		return m.classWords(op, w[0])
	case "numbers":
		if op.A != 10 && op.A != 11 {
			return word(typeError)
		}
		return []string{"-I", map[int]string{10: "+[I", 11: "+[J"}[op.A]}
	}
	return w
}

// pooled is constant A, if it is of that kind; of another one it is zero.
func (m *model) pooled(op api.Op, kind int) api.Const {
	if op.A < 1 || op.A > len(m.class.Pool)-1 || m.class.Pool[op.A].Kind != kind {
		return api.Const{}
	}
	return m.class.Pool[op.A]
}

func (m *model) constantWords(op api.Op) []string {
	n := m.pooled(op, 3).Num
	switch {
	case m.pooled(op, 3).Kind != 0 && n >= -1<<31 && n < 1<<31:
		return []string{"+I"}
	case m.pooled(op, 5).Kind != 0:
		return []string{"+J"}
	case m.pooled(op, 8).Kind != 0:
		return []string{"+LString;"}
	}
	return word(constError)
}

func (m *model) returnWords(op api.Op) []string {
	_, gives, _ := desc.Method(m.method.Desc)
	switch {
	case op.Code == 177 && gives == "V":
		return nil
	case op.Code == 172 && gives == "I", op.Code == 173 && gives == "J", op.Code == 176 && strings.Trim(gives, "IJV") != "":
		return []string{"-" + gives}
	}
	return word(typeError)
}

func (m *model) fieldWords(op api.Op) []string {
	c := m.pooled(op, 9)
	if c.Kind == 0 {
		return word(constError)
	}
	_, f, there := m.tree.Field(c.Text, c.Name, c.Desc)
	if !there || (f.Flags&staticFlag != 0) != (op.Code < 180) {
		return word(memberError)
	}
	typ, object := c.Desc, desc.Of(c.Text)
	return map[int][]string{
		178: {"?" + typ, "+" + typ},
		179: {"?" + typ, "-" + typ},
		180: {"?" + typ, "-" + object, "+" + typ},
		181: {"?" + typ, "-" + typ, "-" + object},
	}[op.Code]
}

func (m *model) callWords(op api.Op) []string {
	c := m.pooled(op, map[int]int{182: 10, 183: 10, 184: 10, 185: 11}[op.Code])
	if c.Kind == 0 {
		return word(constError)
	}
	class, there := m.tree.Class(c.Text)
	_, called, leads := m.tree.Method(c.Text, c.Name, c.Desc)
	own, object := desc.Of(m.class.Name), desc.Of(c.Text)
	if !there || !leads || (class.Flags&interfaceFlag != 0) != (op.Code == 185) || (called.Flags&staticFlag != 0) != (op.Code == 184) ||
		op.Code == 183 && (called.Flags&abstractFlag != 0 || !m.tree.Fits(own, object)) {
		return word(memberError)
	}
	params, gives, _ := desc.Method(c.Desc)
	var w []string
	for i := range params {
		param := params[len(params)-1-i]
		w = append(w, "?"+param, "-"+param)
	}
	w = append(w, map[int][]string{182: {"-" + object}, 183: {"-" + own}, 185: {"-" + object}}[op.Code]...)
	if gives != "V" {
		w = append(w, "?"+gives, "+"+gives)
	}
	return w
}

func (m *model) classWords(op api.Op, what string) []string {
	c := m.pooled(op, 7)
	if c.Kind == 0 {
		return word(constError)
	}
	typ := desc.Of(c.Text)
	class, there := m.tree.Class(c.Text)
	if what == "new" && (!there || class.Flags&interfaceFlags != 0 || c.Text == "String" || c.Text == "Sys") {
		return word(kinError)
	}
	return map[string][]string{
		"new":  {"+" + typ},
		"refs": {"?[" + typ, "-I", "+[" + typ},
		"cast": {"?" + typ, "-ref", "+" + typ},
		"is":   {"?" + typ, "-ref", "+I"},
	}[what]
}

// isTaken: may what is popped be of that type, by the word behind the minus?
func (m *model) isTaken(typ, want string) bool {
	switch want {
	case "any":
		return true
	case "ref":
		return desc.Kind(typ) == 3
	case "refs":
		return typ == "N" || desc.Kind(desc.Element(typ)) == 3
	case "array":
		return typ == "N" || strings.HasPrefix(typ, "[") && len(typ) > 1
	}
	return m.tree.Fits(typ, want)
}

// behind is the state behind an instruction by its words.
func (m *model) behind(op api.Op, s check.State) (check.State, api.Errno) {
	locals, stack := slices.Clone(s.Locals), slices.Clone(s.Stack)
	var popped []string
	for _, w := range m.wordsOf(op) {
		_, of, _ := strings.Cut(w, ":")
		switch what, typ := w[:1], w[1:]; what {
		case "-":
			if len(stack) == 0 {
				return check.State{}, stackError
			}
			popped = append(popped, stack[len(stack)-1])
			stack = stack[:len(stack)-1]
			if !m.isTaken(popped[len(popped)-1], typ) {
				return check.State{}, typeError
			}
		case "+":
			if len(stack) >= m.method.Stack {
				return check.State{}, stackError
			}
			stack = append(stack, pushed(typ, op, popped, locals))
		case "h", "i":
			if op.A >= len(locals) {
				return check.State{}, stackError
			}
			if what == "i" {
				locals[op.A] = popped[0]
			} else if locals[op.A] != of && (of != "ref" || desc.Kind(locals[op.A]) != 3) {
				return check.State{}, typeError
			}
		case "?":
			if !m.tree.Known(typ) {
				return check.State{}, kinError
			}
		case "!":
			return check.State{}, api.Errno(numberIn(typ))
		}
	}
	return check.State{Locals: locals, Stack: stack}, api.OK
}

// pushed is the type by the word behind the plus.
func pushed(word string, op api.Op, popped, locals []string) string {
	switch word {
	case "1":
		return popped[0]
	case "2":
		return popped[1]
	case "local":
		return locals[op.A]
	case "element":
		array := popped[len(popped)-1]
		if array == "N" {
			return array
		}
		return array[1:]
	}
	return word
}

// stateFits: does one state fit another one?
func (m *model) stateFits(s, want check.State) bool {
	all, wanted := slices.Concat(s.Stack, s.Locals), slices.Concat(want.Stack, want.Locals)
	fits := len(s.Stack) == len(want.Stack)
	for i := range all {
		fits = fits && m.tree.Fits(all[i], wanted[i])
	}
	return fits
}

func (m *model) isPlace(place int) bool {
	return slices.ContainsFunc(m.ops, func(op api.Op) bool { return op.Pc == place })
}

// first is the first state.
func (m *model) first() check.State {
	params, _, _ := desc.Method(m.method.Desc)
	if m.method.Flags&staticFlag == 0 {
		params = slices.Insert(slices.Clone(params), 0, desc.Of(m.class.Name))
	}
	return check.State{Locals: append(params, make([]string, max(0, m.method.Locals-len(params)))...)}
}

// beginning is the first step's error.
func (m *model) beginning() api.Errno {
	ops, e := code.Decode(m.method.Code)
	if e != api.OK {
		return e
	}
	m.ops = ops
	params, gives, e := desc.Method(m.method.Desc)
	switch {
	case m.method.Stack < 0, m.method.Stack > 20, m.method.Locals < 0, m.method.Locals > 40:
		return argError
	case e != api.OK:
		return e
	}
	for _, typ := range append(params, gives) {
		if typ != "V" && !m.tree.Known(typ) {
			return kinError
		}
	}
	if len(m.first().Locals) > m.method.Locals {
		return stackError
	}
	return api.OK
}

// frameFault is the second step's error.
func (m *model) frameFault() api.Errno {
	m.frames = map[int]check.State{}
	for i, f := range m.method.Frames {
		if i > 0 && m.method.Frames[i-1].Pc >= f.Pc || !m.isPlace(f.Pc) || len(f.Locals) > m.method.Locals || len(f.Stack) > m.method.Stack {
			return frameError
		}
		for j, typ := range slices.Concat(f.Locals, f.Stack) {
			onStack := j >= len(f.Locals)
			if typ == "" && onStack {
				return frameError
			}
			if typ != "N" && typ != "" && !m.tree.Known(typ) {
				return kinError
			}
		}
		m.frames[f.Pc] = check.State{Locals: append(slices.Clone(f.Locals), make([]string, m.method.Locals-len(f.Locals))...), Stack: slices.Clone(f.Stack)}
	}
	return api.OK
}

// rowFault is the third step's error.
func (m *model) rowFault() api.Errno {
	for _, r := range m.method.Rows {
		end := r.To == len(m.method.Code)
		if r.To <= r.From || !m.isPlace(r.From) || !end && !m.isPlace(r.To) || !m.isPlace(r.At) {
			return placeError
		}
		caught := desc.Of(r.Class)
		if r.Class == "" {
			caught = "LThrowable;"
		}
		if !m.tree.Fits(caught, "LThrowable;") {
			return kinError
		}
		frame, there := m.frames[r.At]
		if !there || len(frame.Stack) != 1 {
			return frameError
		}
		if !m.tree.Fits(caught, frame.Stack[0]) {
			return typeError
		}
	}
	return api.OK
}

// caughtFits: do a state's locals fit where each row about a place leads?
func (m *model) caughtFits(place int, s check.State) bool {
	for _, r := range m.method.Rows {
		if place >= r.From && place < r.To && !m.stateFits(check.State{Locals: s.Locals}, check.State{Locals: m.frames[r.At].Locals}) {
			return false
		}
	}
	return true
}

// wantMethod is the reference's word for a method.
func wantMethod(tree *kin.Tree, s subject) ([]check.State, api.Errno) {
	m := &model{tree: tree, class: s.class, method: s.method}
	for _, step := range []func() api.Errno{m.beginning, m.frameFault, m.rowFault} {
		if e := step(); e != api.OK {
			return nil, e
		}
	}
	first := m.first()
	follows := &first
	var states []check.State
	for _, op := range m.ops {
		state, there := m.frames[op.Pc]
		switch {
		case !there && follows == nil:
			return nil, frameError
		case there && follows != nil && !m.stateFits(*follows, state):
			return nil, typeError
		case !there:
			state = *follows
		}
		if !m.caughtFits(op.Pc, state) {
			return nil, typeError
		}
		states = append(states, state)
		next, e := m.behind(op, state)
		if e != api.OK {
			return nil, e
		}
		if target, there := m.frames[op.A]; code.Leads(op.Code) && !there {
			return nil, frameError
		} else if code.Leads(op.Code) && !m.stateFits(next, target) {
			return nil, typeError
		}
		follows = &next
		if slices.Contains([]int{167, 172, 173, 176, 177, 191}, op.Code) {
			follows = nil
		}
	}
	if follows != nil {
		return nil, frameError
	}
	return states, api.OK
}

// checkReference holds Method against the reference, and asks of its states what the second promise says. It answers the error.
func checkReference(t *testing.T, tree *kin.Tree, s subject) api.Errno {
	t.Helper()
	want, wantError := wantMethod(tree, s)
	states, e := check.Method(tree, s.class, s.method)
	if e != wantError || !slices.Equal(allTold(states), allTold(want)) {
		t.Fatalf("%+v of %+v: %q, %v, want %q, %v", s.method, s.class, allTold(states), e, allTold(want), wantError)
	}
	for i, state := range states {
		if len(state.Locals) != s.method.Locals || len(state.Stack) > s.method.Stack {
			t.Fatalf("%+v of %+v: state %d is %+v", s.method, s.class, i, state)
		}
		if i < len(want) && !reflect.DeepEqual(append([]string{}, state.Locals...), append([]string{}, want[i].Locals...)) {
			t.Fatalf("%+v of %+v: state %d is %+v, want %+v", s.method, s.class, i, state, want[i])
		}
	}
	return e
}
