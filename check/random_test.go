package check_test

import (
	"maps"
	"math/rand"
	"slices"
	"testing"

	"reglet/api"
	"reglet/check"
	"reglet/code"
	"reglet/desc"
)

// pick is one of a list.
func pick[T any](r *rand.Rand, list ...T) T { return list[r.Intn(len(list))] }

// A maker makes methods that are taken: it asks the reference what an instruction leaves, and takes only those that are let through.
type maker struct {
	r *rand.Rand
	model
	s     subject
	state check.State
	known bool
	pc    int
	// What leads to a place that isn't there yet.
	waiting []waiting
}

// A waiting is the number of an instruction, and the state in which it leads.
type waiting struct {
	op    int
	state check.State
}

// poolOfRows is a pool with all constants of the table's rows.
func poolOfRows() []api.Const {
	s := of(0, "()V", 0, 0, "177")
	for _, row := range tableRows() {
		s.assembled(row.text)
	}
	return s.class.Pool
}

var knownTypes = []string{"I", "I", "J", "La;", "Lb;", "Ld;", "Li;", "LObject;", "LString;", "Le;", "LThrowable;", "[I", "[J", "[[I", "[La;", "[[Lb;"}

// randomDescriptor has up to that many parameters.
func randomDescriptor(r *rand.Rand, most int) string {
	d := "("
	for range r.Intn(most + 1) {
		d += pick(r, knownTypes...)
	}
	return d + ")" + pick(r, append(knownTypes, "V", "V", "V", "V", "V")...)
}

// randomSubject is a method that is taken, of some length.
func randomSubject(r *rand.Rand, length int) subject {
	g := &maker{r: r, s: subject{class: api.Class{Name: pick(r, "b", "b", "b", "a", "d", "e"), Pool: poolOfRows()}}}
	stack, locals := 1+r.Intn(8), 1+r.Intn(6)
	g.s.method = api.Method{Flags: pick(r, 0, staticFlag), Name: "m", Desc: randomDescriptor(r, locals-1), Stack: stack, Locals: locals}
	g.model = model{tree: familyTree, class: g.s.class, method: g.s.method, frames: map[int]check.State{}}
	g.state, g.known = g.first(), true
	for range length {
		if !g.known || r.Intn(8) == 0 {
			g.layFrame()
		}
		g.layOne()
	}
	g.finish()
	b, e := code.Encode(g.ops)
	if e != api.OK {
		panic(e)
	}
	g.s.method.Code = b
	g.layRows()
	return g.s
}

// layOne lays an instruction that the state allows: more of those that seldom find what they want.
func (g *maker) layOne() {
	seldom := []int{46, 47, 50, 79, 79, 79, 80, 80, 83, 179, 180, 181, 181, 182, 183, 183, 184, 185}
	for range 60 {
		op := g.randomOp(pick(g.r, pick(g.r, codes...), pick(g.r, seldom...)))
		behind, e := g.behind(op, g.state)
		if e != api.OK {
			continue
		}
		g.lay(op, behind)
		return
	}
}

// lay lays an instruction, and finds out where it may lead to.
func (g *maker) lay(op api.Op, behind check.State) {
	if code.Leads(op.Code) {
		var fitting []int
		for _, place := range slices.Sorted(maps.Keys(g.frames)) {
			if g.stateFits(behind, g.frames[place]) {
				fitting = append(fitting, place)
			}
		}
		if len(fitting) > 0 && g.r.Intn(2) == 0 {
			op.A = pick(g.r, fitting...)
		} else {
			g.waiting = append(g.waiting, waiting{len(g.ops), behind})
		}
	}
	g.ops = append(g.ops, op)
	g.pc += code.Size(op.Code)
	g.state, g.known = behind, !code.Ends(op.Code)
}

var codes = slices.Sorted(maps.Keys(words))

func (g *maker) randomOp(c int) api.Op {
	op := api.Op{Pc: g.pc, Code: c}
	switch {
	case pooledCodes[c] != nil:
		for op.A == 0 || !slices.Contains(pooledCodes[c], g.s.class.Pool[op.A].Kind) {
			op.A = g.r.Intn(len(g.s.class.Pool))
		}
	case c == 188:
		op.A = pick(g.r, 10, 11)
	case c == 16, c == 17:
		op.A = g.r.Intn(100) - 50
	case c == 132:
		op.A, op.B = g.r.Intn(g.s.method.Locals), g.r.Intn(100)-50
	case code.Size(c) == 2:
		op.A = g.r.Intn(g.s.method.Locals)
	}
	return op
}

// layFrame lays a frame here, if there is none yet, that the state fits; where none is known, one into which somebody is waiting to lead, one of who catches, or any.
func (g *maker) layFrame() {
	if _, there := g.frames[g.pc]; there {
		return
	}
	switch {
	case g.known:
		g.state = g.wider(g.state)
	case len(g.waiting) > 0 && g.r.Intn(3) > 0:
		g.state = g.wider(pick(g.r, g.waiting...).state)
	default:
		g.state = g.anyState()
	}
	g.frame(g.state)
}

// frame lays a frame, to which whoever may leads from now on.
func (g *maker) frame(s check.State) {
	g.state, g.known = s, true
	g.frames[g.pc] = s
	locals := slices.Clone(s.Locals)
	for len(locals) > 0 && locals[len(locals)-1] == "" && g.r.Intn(2) == 0 {
		locals = locals[:len(locals)-1]
	}
	g.s.method.Frames = append(g.s.method.Frames, api.Frame{Pc: g.pc, Locals: locals, Stack: slices.Clone(s.Stack)})
	g.waiting = slices.DeleteFunc(g.waiting, func(w waiting) bool {
		fits := g.stateFits(w.state, s)
		if fits {
			g.ops[w.op].A = g.pc
		}
		return fits
	})
}

// wider is a state into which that one fits.
func (g *maker) wider(s check.State) check.State {
	w := check.State{Locals: slices.Clone(s.Locals), Stack: slices.Clone(s.Stack)}
	for _, list := range [][]string{w.Locals, w.Stack} {
		for i, typ := range list {
			if desc.Kind(typ) == api.KindRef && g.r.Intn(4) == 0 {
				fitting := slices.DeleteFunc(slices.Clone(knownTypes), func(want string) bool { return !g.tree.Fits(typ, want) })
				list[i] = pick(g.r, append(fitting, typ)...)
			}
		}
	}
	for i := range w.Locals {
		if g.r.Intn(5) == 0 {
			w.Locals[i] = ""
		}
	}
	return w
}

func (g *maker) anyState() check.State {
	s := check.State{}
	for range g.s.method.Locals {
		s.Locals = append(s.Locals, pick(g.r, append(knownTypes, "", "", "", "", "N")...))
	}
	if g.r.Intn(2) == 0 {
		for i := range s.Locals {
			s.Locals[i] = pick(g.r, "", "", s.Locals[i])
		}
		s.Stack = []string{pick(g.r, "LThrowable;", "LObject;", "LException;", "Le;")}
		return s
	}
	for range g.r.Intn(g.s.method.Stack + 1) {
		s.Stack = append(s.Stack, pick(g.r, append(knownTypes, "N")...))
	}
	return s
}

// finish makes the last instruction one that ends, and has all lead somewhere.
func (g *maker) finish() {
	for g.known || len(g.waiting) > 0 {
		if !g.known {
			g.frame(g.waiting[0].state)
		}
		if _, there := g.frames[g.pc]; !there {
			g.frame(g.state)
		}
		op := api.Op{Pc: g.pc, Code: 167, A: g.pc}
		for _, c := range []int{172, 173, 176, 177, 191} {
			if _, e := g.behind(api.Op{Code: c}, g.state); e == api.OK && g.r.Intn(4) > 0 {
				op = api.Op{Pc: g.pc, Code: c}
			}
		}
		g.ops = append(g.ops, op)
		g.pc += code.Size(op.Code)
		g.known = false
	}
}

// layRows has some frames catch where the locals fit them.
func (g *maker) layRows() {
	states, e := wantMethod(g.tree, g.s)
	if e != api.OK {
		panic(e)
	}
	for range g.r.Intn(4) * len(g.s.method.Frames) {
		f := pick(g.r, g.s.method.Frames...)
		class := pick(g.r, "", "Throwable", "Exception", "e", "e2", "ZeroFault", "DepthFault")
		caught := desc.Of(class)
		if class == "" {
			caught = "LThrowable;"
		}
		if len(f.Stack) != 1 || !g.tree.Fits(caught, f.Stack[0]) {
			continue
		}
		fits := func(i int) bool {
			return g.stateFits(check.State{Locals: states[i].Locals}, check.State{Locals: g.frames[f.Pc].Locals})
		}
		from := g.r.Intn(len(g.ops))
		to := from
		for to < len(g.ops) && fits(to) && (to == from || g.r.Intn(6) > 0) {
			to++
		}
		if to > from {
			end := len(g.s.method.Code)
			if to < len(g.ops) {
				end = g.ops[to].Pc
			}
			g.s.method.Rows = append(g.s.method.Rows, api.Row{From: g.ops[from].Pc, To: end, At: f.Pc, Class: class})
		}
	}
}

// TestReferenceAtRandomMethods: these are taken, and have all instructions among them.
func TestReferenceAtRandomMethods(t *testing.T) {
	r := rand.New(rand.NewSource(1))
	seen, rows, ways := map[int]int{}, 0, 0
	for range 3000 {
		s := randomSubject(r, 1+r.Intn(40))
		if e := checkReference(t, familyTree, s); e != api.OK {
			t.Fatalf("%+v: %v", s.method, e)
		}
		ops, _ := code.Decode(s.method.Code)
		for _, op := range ops {
			seen[op.Code]++
			if code.Leads(op.Code) && op.A > op.Pc {
				ways++
			}
		}
		rows += len(s.method.Rows)
	}
	for _, c := range codes {
		if seen[c] < 20 {
			t.Errorf("only %d instructions %d are taken", seen[c], c)
		}
	}
	if rows < 500 || ways < 500 {
		t.Errorf("only %d rows, and %d ways forward", rows, ways)
	}
}

// otherType is a type, or what is none.
func otherType(r *rand.Rand) string {
	return pick(r, append(knownTypes, "N", "", "Lz;", "V", "[Lz;", "L;")...)
}

// changed is a subject with one thing changed.
func changed(r *rand.Rand, s subject) subject {
	return s.with(func(s *subject) {
		m := &s.method
		switch r.Intn(12) {
		case 0, 1:
			at := r.Intn(len(m.Code))
			m.Code[at] = pick(r, byte(r.Intn(256)), byte(pick(r, codes...)), m.Code[at]+1, m.Code[at]-1)
		case 2, 3:
			changeInstruction(r, s)
		case 4:
			m.Stack += pick(r, -1, 1, -6, 20)
		case 5:
			m.Locals += pick(r, -1, 1, -6, 40)
		case 6:
			m.Desc = pick(r, randomDescriptor(r, 3), m.Desc+"I", m.Desc+";", "("+otherType(r)+m.Desc[1:])
		case 7, 8:
			changeFrames(r, m)
		case 9, 10:
			changeRows(r, m)
		case 11:
			switch r.Intn(4) {
			default:
				m.Flags ^= pick(r, staticFlag, interfaceFlag, abstractFlag)
			case 1:
				s.class.Name = pick(r, "a", "b", "d", "ab", "z", "e", "[I", "Object")
			case 2:
				s.class.Pool = s.class.Pool[:r.Intn(len(s.class.Pool)+1)]
			case 3:
				r.Shuffle(len(s.class.Pool), func(i, j int) { s.class.Pool[i], s.class.Pool[j] = s.class.Pool[j], s.class.Pool[i] })
			}
		}
	})
}

// changeInstruction puts another one, of the same size, in the place of one.
func changeInstruction(r *rand.Rand, s *subject) {
	ops, e := code.Decode(s.method.Code)
	if e != api.OK {
		return
	}
	i := r.Intn(len(ops))
	c := pick(r, codes...)
	if code.Size(c) != code.Size(ops[i].Code) {
		return
	}
	s.method.Code[ops[i].Pc] = byte(c)
	if code.Size(c) == 3 && !code.Leads(c) {
		s.method.Code[ops[i].Pc+1], s.method.Code[ops[i].Pc+2] = 0, byte(r.Intn(len(s.class.Pool)+2))
	}
}

func changeFrames(r *rand.Rand, m *api.Method) {
	if len(m.Frames) == 0 {
		return
	}
	i := r.Intn(len(m.Frames))
	f := &m.Frames[i]
	f.Locals, f.Stack = slices.Clone(f.Locals), slices.Clone(f.Stack)
	lists := slices.DeleteFunc([][]string{f.Locals, f.Stack}, func(l []string) bool { return len(l) == 0 })
	switch r.Intn(8) {
	case 0:
		f.Pc += pick(r, -1, 1, 2, -2, 1<<32)
	case 1:
		m.Frames = slices.Delete(m.Frames, i, i+1)
	case 2:
		m.Frames = slices.Insert(m.Frames, i, *f)
	case 3:
		f.Stack = append(f.Stack, otherType(r))
	case 4:
		f.Locals = append(f.Locals, otherType(r))
	default:
		if len(lists) > 0 {
			l := pick(r, lists...)
			l[r.Intn(len(l))] = otherType(r)
		}
	}
}

func changeRows(r *rand.Rand, m *api.Method) {
	if len(m.Rows) == 0 {
		return
	}
	row := &m.Rows[r.Intn(len(m.Rows))]
	other := func(place int) int {
		return pick(r, place+1, place-1, place+2, r.Intn(len(m.Code)+1), len(m.Code))
	}
	switch r.Intn(4) {
	case 0:
		row.From = other(row.From)
	case 1:
		row.To = other(row.To)
	case 2:
		row.At = other(row.At)
	case 3:
		row.Class = pick(r, "", "z", "a", "Object", "e", "e2", "Exception", "Throwable", "[I")
	}
}

// TestReferenceAtChangedMethods: by one or two changes most of them aren't taken any more, for whatever reason.
func TestReferenceAtChangedMethods(t *testing.T) {
	r := rand.New(rand.NewSource(2))
	seen := map[api.Errno]int{}
	for range 3000 {
		s := randomSubject(r, 1+r.Intn(20))
		for range 12 {
			c := s
			for range 1 + r.Intn(2) {
				c = changed(r, c)
			}
			seen[checkReference(t, familyTree, c)]++
		}
		checkReference(t, nil, s)
	}
	for e, least := range map[api.Errno]int{api.OK: 3000, argError: 500, constError: 300, descError: 500, codeError: 1000, placeError: 500, kinError: 500, frameError: 1000, stackError: 1000, typeError: 3000, memberError: 100} {
		if seen[e] < least {
			t.Errorf("only %d changed methods answer %v", seen[e], e)
		}
	}
}

// TestReferenceAtRandomBytes: code that nobody made.
func TestReferenceAtRandomBytes(t *testing.T) {
	r := rand.New(rand.NewSource(3))
	pool := poolOfRows()
	for range 10000 {
		s := randomSubject(r, 3)
		s.class.Pool = pool
		s.method.Code = nil
		for range 1 + r.Intn(12) {
			s.method.Code = append(s.method.Code, byte(pick(r, pick(r, codes...), pick(r, codes...), r.Intn(256), r.Intn(4))))
		}
		checkReference(t, familyTree, s)
	}
}

// FuzzMethod looks for code at which Method and the reference differ.
func FuzzMethod(f *testing.F) {
	pool := poolOfRows()
	for _, s := range taken() {
		f.Add(s.method.Code, s.method.Desc, s.method.Stack, s.method.Locals, s.method.Flags, 5, "La;,I,J,I|", 23, "La;|N")
	}
	f.Fuzz(func(t *testing.T, b []byte, d string, stack, locals, flags, place int, text string, other int, otherText string) {
		s := subject{class: api.Class{Name: "b", Pool: pool}, method: api.Method{Flags: flags, Desc: d, Stack: stack, Locals: locals, Code: b, Frames: []api.Frame{frame(place, text), frame(other, otherText)}}}
		checkReference(t, familyTree, s)
		checkReference(t, familyTree, s.rows(api.Row{From: 0, To: len(b), At: place}, api.Row{From: place, To: other, At: other, Class: "e"}))
		checkReference(t, nil, s)
	})
}
