package lower_test

import (
	"fmt"
	"maps"
	"math/rand"
	"slices"
	"strings"
	"testing"

	"reglet/api"
	"reglet/check"
	"reglet/code"
	"reglet/desc"
	"reglet/kin"
)

// pick is one of a list.
func pick[T any](r *rand.Rand, list ...T) T { return list[r.Intn(len(list))] }

// A maker makes a method that is taken: it asks layer 8 what an instruction leaves, and takes only those that are let through.
type maker struct {
	r      *rand.Rand
	tree   *kin.Tree
	class  api.Class
	method api.Method
	ops    []api.Op
	pc     int
	state  check.State
	known  bool
	frames map[int]check.State
	// What leads to a place that isn't there yet.
	waiting []waiting
}

// A waiting is the number of an instruction, and the state in which it leads.
type waiting struct {
	op    int
	state check.State
}

// bare are the classes of random worlds, whose methods have no code yet.
func bare() []*told {
	return []*told{
		class("interface i: static si I").without("abstract h (I)I"),
		class("interface j < Object i").without("abstract k ()J").without("abstract take ([ILObject;)LObject;"),
		class("abstract c < Object i: n I").without("abstract f ()V").without("give (ILi;)La;"),
		class("a < c: x I, l J, r La;, v [I, static sx I, static sl J, static sr La;, static sv [La;").
			without("f ()V").without("h (I)I").without("get (JLa;)J").
			without("static one (I)I").without("static two (JLa;I)La;").without("static refs ([La;ILa;)La;"),
		class("b < a j: x J, y [La;, static so LObject;").
			without("f ()V").without("k ()J").without("take ([ILObject;)LObject;").without("give (ILi;)La;").without("static three (LObject;LThrowable;)I").without("static four ([J[IJI)V"),
		class("e < Exception: n I").without("rise (I)V"),
		class("e2 < e").without("rise (I)V").without("static five (LString;I)LString;"),
	}
}

// randomTypes are those of locals in frames that nobody leads to yet.
var randomTypes = strings.Fields("I I J La; Lb; Li; Lc; LObject; LString; Le; LThrowable; [I [J [La; [Lb; [[I N")

// wholePool has all constants that instructions may want.
func wholePool(l []*told) []api.Const {
	texts := strings.Fields("int:0 int:1 int:-7 int:2147483647 int:-2147483648 long:3 long:-9223372036854775808 string:hi string: class:a class:b class:e class:e2 class:i class:Object class:[I class:[La; class:String class:ZeroFault " +
		"method:Sys.print:(I)V method:Sys.print:(J)V method:Sys.print:(LString;)V method:Sys.exit:(I)V method:String.length:()I method:String.charAt:(I)I method:b.h:(I)I method:b.get:(JLa;)J method:b.one:(I)I method:c.h:(I)I field:b.x:I field:b.sl:J field:b.n:I")
	for _, c := range l {
		for _, f := range c.class.Fields {
			texts = append(texts, fmt.Sprintf("field:%s.%s:%s", c.class.Name, f.Name, f.Desc))
		}
		for _, m := range c.class.Methods {
			kind := "method"
			if c.class.Flags == interfaceFlags {
				kind = "iface"
			}
			texts = append(texts, fmt.Sprintf("%s:%s.%s:%s", kind, c.class.Name, m.Name, m.Desc))
		}
	}
	pool := []api.Const{{}}
	for _, text := range texts {
		kind, rest, _ := strings.Cut(text, ":")
		pool = append(pool, constant(kind, rest))
	}
	return pool
}

// randomWorld are classes whose methods have code of up to so many instructions.
func randomWorld(r *rand.Rand, most int) []api.Class {
	var l []api.Class
	pool := wholePool(bare())
	for _, c := range bare() {
		c.class.Pool = pool
		l = append(l, c.class)
	}
	tree, e := kin.New(l)
	if e != api.OK {
		panic(e)
	}
	for _, c := range l {
		for i, m := range c.Methods {
			if m.Flags&abstractFlag == 0 {
				c.Methods[i] = randomMethod(r, tree, c, m, 1+r.Intn(most))
			}
		}
	}
	return l
}

// randomMethod gives a method code.
func randomMethod(r *rand.Rand, tree *kin.Tree, c api.Class, m api.Method, length int) api.Method {
	params, _, _ := desc.Method(m.Desc)
	var locals []string
	if m.Flags == 0 {
		locals = append(locals, desc.Of(c.Name))
	}
	locals = append(locals, params...)
	m.Stack, m.Locals = 2+r.Intn(5), len(locals)+r.Intn(4)
	g := &maker{r: r, tree: tree, class: c, method: m, known: true, frames: map[int]check.State{}}
	g.state.Locals = append(locals, make([]string, m.Locals-len(locals))...)
	for part := range 1 + r.Intn(3) {
		if part > 0 {
			// Behind an end stands one that may catch.
			g.end()
			g.frame(g.catching())
		}
		g.layPart(length)
	}
	for g.known || len(g.waiting) > 0 {
		if !g.known {
			g.frame(g.waiting[0].state)
		}
		g.end()
	}
	b, e := code.Encode(g.ops)
	if e != api.OK {
		panic(e)
	}
	g.method.Code = b
	g.layRows()
	return g.method
}

// behind is the state that an instruction leaves; false: it isn't taken here. It is tried in a small method of its own.
func (g *maker) behind(op api.Op, state check.State) (check.State, bool) {
	if code.Leads(op.Code) {
		return behindLead(op, state)
	}
	_, gives, _ := desc.Method(g.method.Desc)
	op.Pc = 3
	ops := []api.Op{{Code: 167}, op}
	if !code.Ends(op.Code) {
		end := 3 + code.Size(op.Code)
		ops = append(ops, api.Op{Pc: end, Code: 1}, api.Op{Pc: end + 1, Code: 191})
	}
	b, e := code.Encode(ops)
	if e != api.OK {
		panic(e)
	}
	try := api.Method{Flags: staticFlag, Name: "try", Desc: "()" + gives, Stack: g.method.Stack + 1, Locals: g.method.Locals, Code: b, Frames: []api.Frame{{}, {Pc: 3, Locals: state.Locals, Stack: state.Stack}}}
	states, e := check.Method(g.tree, g.class, try)
	if e != api.OK {
		return check.State{}, false
	}
	if code.Ends(op.Code) {
		return check.State{}, true
	}
	return states[2], len(states[2].Stack) <= g.method.Stack
}

// behindLead is behind of what leads, which a small method couldn't lead anywhere.
func behindLead(op api.Op, s check.State) (check.State, bool) {
	n, kind := 0, 1
	switch c := op.Code; {
	case c <= 158:
		n = 1
	case c <= 164:
		n = 2
	case c <= 166:
		n, kind = 2, 3
	case c >= 198:
		n, kind = 1, 3
	}
	left := len(s.Stack) - n
	if left < 0 || slices.ContainsFunc(s.Stack[left:], func(typ string) bool { return desc.Kind(typ) != kind }) {
		return check.State{}, false
	}
	return check.State{Locals: s.Locals, Stack: s.Stack[:left:left]}, true
}

var (
	allCodes = func() []int {
		var l []int
		for c := range 256 {
			if code.Size(c) > 0 {
				l = append(l, c)
			}
		}
		return l
	}()
	// What is tried more often: what pushes, so that there is something to do it with, and what seldom finds what it wants.
	pushCodes   = []int{3, 4, 7, 9, 16, 19, 19, 21, 21, 22, 25, 25, 25, 178, 178, 187, 187, 187}
	seldomCodes = []int{46, 47, 50, 79, 79, 79, 80, 80, 80, 83, 83, 83, 90, 95, 108, 109, 112, 113, 188, 189, 179, 180, 181, 181, 182, 182, 183, 183, 184, 184, 185, 185, 190, 192, 193}
	pooledCodes = map[int][]int{19: {3, 5, 8}, 178: {9}, 179: {9}, 180: {9}, 181: {9}, 182: {10}, 183: {10}, 184: {10}, 185: {11}, 187: {7}, 189: {7}, 192: {7}, 193: {7}}
)

// idioms are instructions that seldom find by chance what they want.
var idioms = []string{
	"6, 188 10, 89, 4, 7, 79", "6, 188 10, 4, 46", "89, 3, 46", "89, 4, 7, 79", "6, 188 11, 89, 5, 10, 80", "6, 188 11, 4, 47", "89, 3, 10, 80",
	"6, 189 class:a, 89, 4, 187 class:b, 83", "6, 189 class:a, 4, 50", "6, 189 class:b, 192 class:[La;, 89, 3, 187 class:a, 83", "89, 3, 1, 83", "89, 3, 187 class:a, 83",
	"187 class:e, 191", "187 class:e2, 191", "187 class:b, 89, 21 0, 181 field:b.x:I", "187 class:b, 89, 187 class:a, 181 field:a.r:La;", "187 class:b, 21 0, 182 method:b.h:(I)I",
	"25 0, 183 method:a.f:()V", "25 0, 3, 1, 183 method:c.give:(ILi;)La;", "25 0, 21 1, 183 method:c.h:(I)I", "187 class:b, 185 iface:j.k:()J", "187 class:e, 4, 182 method:e.rise:(I)V",
	"4, 3, 108", "4, 21 0, 108", "10, 9, 113", "2, 188 10", "19 string:hi, 4, 182 method:String.charAt:(I)I", "89, 90, 95", "95, 95",
}

// layPart lays about so many instructions.
func (g *maker) layPart(length int) {
	for range length {
		if !g.known || g.r.Intn(8) == 0 {
			g.layFrame()
		}
		if g.r.Intn(4) == 0 {
			g.layIdiom(pick(g.r, idioms...))
		} else {
			g.layOne()
		}
	}
}

// layIdiom lays as much of an idiom as the state allows.
func (g *maker) layIdiom(text string) {
	for part := range strings.SplitSeq(text, ", ") {
		first, rest, _ := strings.Cut(part, " ")
		op := api.Op{Pc: g.pc, Code: numberIn(first)}
		kind, what, isConstant := strings.Cut(rest, ":")
		switch {
		case isConstant:
			op.A = slices.Index(g.class.Pool, constant(kind, what))
		case rest != "":
			op.A = numberIn(rest)
		}
		behind, is := g.behind(op, g.state)
		if !is {
			return
		}
		g.lay(op, behind)
	}
}

// layOne lays an instruction that the state allows.
func (g *maker) layOne() {
	for range 200 {
		op := g.randomOp(pick(g.r, pick(g.r, allCodes...), pick(g.r, pushCodes...), pick(g.r, seldomCodes...)))
		// Few ends, so that most of it is come to.
		isEnd := code.Ends(op.Code) || op.Code == 184 && g.class.Pool[op.A].Name == "exit"
		if isEnd && g.r.Intn(12) > 0 {
			continue
		}
		if behind, is := g.behind(op, g.state); is {
			g.lay(op, behind)
			return
		}
	}
}

// lay lays an instruction, and finds out where it may lead to.
func (g *maker) lay(op api.Op, behind check.State) {
	if code.Leads(op.Code) {
		var fitting []int
		for _, place := range slices.Sorted(maps.Keys(g.frames)) {
			if g.fits(behind, g.frames[place]) {
				fitting = append(fitting, place)
			}
		}
		if len(fitting) > 0 && g.r.Intn(3) == 0 {
			op.A = pick(g.r, fitting...)
		} else {
			g.waiting = append(g.waiting, waiting{len(g.ops), behind})
		}
	}
	g.ops = append(g.ops, op)
	g.pc += code.Size(op.Code)
	g.state, g.known = behind, !code.Ends(op.Code)
}

func (g *maker) randomOp(c int) api.Op {
	op := api.Op{Pc: g.pc, Code: c}
	switch {
	case pooledCodes[c] != nil:
		for op.A == 0 || !slices.Contains(pooledCodes[c], g.class.Pool[op.A].Kind) {
			op.A = g.r.Intn(len(g.class.Pool))
		}
	case c == 188:
		op.A = pick(g.r, 10, 11)
	case c == 16, c == 17:
		op.A = g.r.Intn(100) - 30
	case c == 132 && g.method.Locals > 0:
		op.A, op.B = g.r.Intn(g.method.Locals), g.r.Intn(100)-50
	case code.Size(c) == 2 && g.method.Locals > 0:
		op.A = g.r.Intn(g.method.Locals)
	}
	return op
}

// fits: may a state go on as another one?
func (g *maker) fits(s, want check.State) bool {
	if len(s.Stack) != len(want.Stack) {
		return false
	}
	for i, typ := range slices.Concat(s.Locals, s.Stack) {
		if !g.tree.Fits(typ, slices.Concat(want.Locals, want.Stack)[i]) {
			return false
		}
	}
	return true
}

// layFrame lays a frame here, if there is none yet, that the state fits; where none is known, one into which somebody is waiting to lead, or any.
func (g *maker) layFrame() {
	if _, there := g.frames[g.pc]; there {
		return
	}
	switch {
	case g.known:
		g.state = g.wider(g.state)
	case len(g.waiting) > 0 && g.r.Intn(3) > 0:
		g.state = g.wider(pick(g.r, g.waiting...).state)
	default:
		g.state = g.anyState()
	}
	g.frame(g.state)
}

// frame lays a frame, to which whoever may leads from now on.
func (g *maker) frame(s check.State) {
	g.state, g.known = s, true
	g.frames[g.pc] = s
	g.method.Frames = append(g.method.Frames, api.Frame{Pc: g.pc, Locals: slices.Clone(s.Locals), Stack: slices.Clone(s.Stack)})
	g.waiting = slices.DeleteFunc(g.waiting, func(w waiting) bool {
		fits := g.fits(w.state, s)
		if fits {
			g.ops[w.op].A = g.pc
		}
		return fits
	})
}

// wider is a state into which that one fits.
func (g *maker) wider(s check.State) check.State {
	w := check.State{Locals: slices.Clone(s.Locals), Stack: slices.Clone(s.Stack)}
	for _, list := range [][]string{w.Locals, w.Stack} {
		for i, typ := range list {
			if desc.Kind(typ) == 3 && g.r.Intn(5) == 0 {
				fitting := slices.DeleteFunc(slices.Clone(randomTypes), func(want string) bool { return !g.tree.Fits(typ, want) })
				list[i] = pick(g.r, append(fitting, typ)...)
			}
		}
	}
	for i := range w.Locals {
		if g.r.Intn(8) == 0 {
			w.Locals[i] = ""
		}
	}
	return w
}

// anyState is one that nobody leads to yet.
func (g *maker) anyState() check.State {
	if g.r.Intn(3) > 0 {
		return g.catching()
	}
	s := check.State{Locals: make([]string, g.method.Locals)}
	for i := range s.Locals {
		s.Locals[i] = pick(g.r, append(randomTypes, "", "", "")...)
	}
	for range g.r.Intn(g.method.Stack + 1) {
		s.Stack = append(s.Stack, pick(g.r, randomTypes...))
	}
	return s
}

// catching is a state in which a thing was caught: of the locals not many are wanted, so that many rows may lead there.
func (g *maker) catching() check.State {
	s := check.State{Locals: make([]string, g.method.Locals)}
	states := g.statesTillNow()
	for i := range s.Locals {
		if typ := pick(g.r, states...).Locals[i]; g.r.Intn(3) == 0 {
			s.Locals[i] = typ
		}
	}
	s.Stack = []string{pick(g.r, "LThrowable;", "LThrowable;", "LObject;", "LException;", "Le;")}
	return s
}

// statesTillNow are those of the frames, and the one that is told by the method.
func (g *maker) statesTillNow() []check.State {
	params, _, _ := desc.Method(g.method.Desc)
	var first check.State
	if g.method.Flags == 0 {
		first.Locals = append(first.Locals, desc.Of(g.class.Name))
	}
	first.Locals = append(first.Locals, params...)
	first.Locals = append(first.Locals, make([]string, g.method.Locals-len(first.Locals))...)
	l := []check.State{first}
	for _, place := range slices.Sorted(maps.Keys(g.frames)) {
		l = append(l, g.frames[place])
	}
	return l
}

// end lays what ends, if a state is known: what gives back, or else a circle.
func (g *maker) end() {
	if !g.known || g.giveBack() {
		return
	}
	if _, there := g.frames[g.pc]; !there {
		g.frame(g.state)
	}
	g.ops = append(g.ops, api.Op{Pc: g.pc, Code: 167, A: g.pc})
	g.pc += 3
	g.known = false
}

// giveBack lays what gives back, and what that needs ahead.
func (g *maker) giveBack() bool {
	for range 60 {
		for _, c := range []int{172, 173, 176, 177, 191} {
			if _, is := g.behind(api.Op{Code: c}, g.state); is {
				g.lay(api.Op{Pc: g.pc, Code: c}, check.State{})
				return true
			}
		}
		op := g.randomOp(pick(g.r, 1, 3, 9, 19, 21, 22, 25, 87))
		if behind, is := g.behind(op, g.state); is {
			g.lay(op, behind)
		}
	}
	return false
}

// layRows has some frames catch where the locals fit them.
func (g *maker) layRows() {
	states, e := check.Method(g.tree, g.class, g.method)
	if e != api.OK {
		panic(e)
	}
	if len(g.method.Frames) == 0 {
		return
	}
	for range 4 * len(g.method.Frames) {
		f := pick(g.r, g.method.Frames...)
		class := pick(g.r, "", "", "Throwable", "Exception", "e", "e2", "ZeroFault", "NullFault", "DepthFault")
		caught := desc.Of(class)
		if class == "" {
			caught = "LThrowable;"
		}
		if len(f.Stack) != 1 || !g.tree.Fits(caught, f.Stack[0]) || f.Pc == 0 {
			continue
		}
		fits := func(i int) bool {
			return g.fits(check.State{Locals: states[i].Locals}, check.State{Locals: g.frames[f.Pc].Locals})
		}
		from := g.r.Intn(len(g.ops))
		for from > 0 && fits(from-1) && g.r.Intn(8) > 0 {
			from--
		}
		to := from
		for to < len(g.ops) && fits(to) && (to == from || g.r.Intn(12) > 0) {
			to++
		}
		if to == from {
			continue
		}
		end := len(g.method.Code)
		if to < len(g.ops) {
			end = g.ops[to].Pc
		}
		g.method.Rows = append(g.method.Rows, api.Row{From: g.ops[from].Pc, To: end, At: f.Pc, Class: class})
	}
}

// randomArguments are what a method may be called with.
func randomArguments(r *rand.Rand, p *program, id int) []argument {
	known, _, _ := p.world.Method(id)
	params, _, _ := desc.Method(known.Desc)
	var l []argument
	if !known.Static {
		l = append(l, randomThing(r, p, desc.Of(known.Class)))
	}
	for _, param := range params {
		switch desc.Kind(param) {
		case 1:
			l = append(l, pick(r, r.Intn(7)-2, pick(r, someInts...)))
		case 2:
			l = append(l, pick(r, int64(r.Intn(7)-2), pick(r, someLongs...)))
		default:
			l = append(l, pick[argument](r, nil, randomThing(r, p, param), randomThing(r, p, param), randomThing(r, p, param)))
		}
	}
	return l
}

// randomThing is of a class that there are things of, and that fits a type.
func randomThing(r *rand.Rand, p *program, typ string) func(*machine) any {
	name := fmt.Sprint("it", r.Intn(1000))
	if element := desc.Element(typ); element != "" {
		n := r.Intn(4)
		return func(m *machine) any { return m.array(name, element, n) }
	}
	if typ == "LString;" {
		return func(m *machine) any { return m.string("text") }
	}
	fitting := slices.DeleteFunc(strings.Fields("a b b e e2 Object ZeroFault"), func(class string) bool { return !p.world.Tree().Fits(desc.Of(class), typ) })
	class := pick(r, fitting...)
	return func(m *machine) any { return m.object(name, class) }
}

// randomSetting is one in which there isn't always room.
func randomSetting(r *rand.Rand) setting {
	s := setting{fuel: pick(r, 300, 3000, r.Intn(300)), depth: 1 + r.Intn(12)}
	for range r.Intn(3) {
		s.full = append(s.full, 1+r.Intn(8))
	}
	return s
}

// A tally is what was seen in runs.
type tally struct {
	ends, faults map[string]int
	codes        map[int]int
	caught       int
}

func (y *tally) add(o outcome) {
	y.ends[strings.Fields(o.end)[0]]++
	for c, n := range o.codes {
		// A circle goes through its codes again and again.
		y.codes[c] += min(n, 3)
	}
	throws := 0
	for _, what := range o.done {
		if name, is := strings.CutPrefix(what, "throws "); is {
			y.faults[strings.TrimLeft(name, "#0123456789")]++
			throws++
		}
	}
	if throws > 0 && !strings.HasPrefix(o.end, "throws") {
		y.caught++
	}
}

// TestRandomWorlds: methods that call each other, and all of whose codes are done.
func TestRandomWorlds(t *testing.T) {
	r := rand.New(rand.NewSource(1))
	y := tally{map[string]int{}, map[string]int{}, map[int]int{}, 0}
	for range 120 {
		p := programOf(t, randomWorld(r, 20))
		for _, id := range slices.Sorted(maps.Keys(p.funcs)) {
			for range 12 {
				y.add(p.sameOf(t, randomSetting(r), id, randomArguments(r, p, id)))
			}
		}
	}
	for _, c := range allCodes {
		// This one always throws.
		if y.codes[c] < 8 && c != 191 {
			t.Errorf("only %d times code %d is done", y.codes[c], c)
		}
	}
	for _, name := range append(strings.Fields("NullFault ZeroFault BoundsFault SizeFault CastFault StoreFault MemoryFault DepthFault"), "") {
		if y.faults[name] < 100 {
			t.Errorf("only %d times is thrown %q", y.faults[name], name)
		}
	}
	for end, least := range map[string]int{"returns": 3000, "throws": 3000, "exits": 15, "is": 500} {
		if y.ends[end] < least {
			t.Errorf("only %d runs end so: %s", y.ends[end], end)
		}
	}
	if y.caught < 1500 {
		t.Errorf("in %d runs all that was thrown is caught", y.caught)
	}
}

// FuzzLower looks for worlds whose functions do otherwise than their methods: its number says how they are made.
func FuzzLower(f *testing.F) {
	f.Add(int64(2), 20)
	f.Add(int64(3), 60)
	f.Fuzz(func(t *testing.T, seed int64, most int) {
		r := rand.New(rand.NewSource(seed))
		p := programOf(t, randomWorld(r, 1+min(max(most, 0), 80)))
		for _, id := range slices.Sorted(maps.Keys(p.funcs)) {
			for range 3 {
				p.sameOf(t, randomSetting(r), id, randomArguments(r, p, id))
			}
		}
	})
}
