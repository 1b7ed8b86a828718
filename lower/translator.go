package lower

import (
	"reglet/api"
	"reglet/check"
	"reglet/desc"
	"reglet/link"
)

// noRegister stands where there may be a register and is none.
const noRegister = -1

// A spot is where a value of a kind lies: a local, a place of the stack behind all locals, or the one place beside them.
// A place that holds one kind here and another one there is several spots, so that none of them ever changes its kind.
type spot struct{ place, kind int }

// A translator puts one method into register code, instruction by instruction.
type translator struct {
	world  *link.World
	pool   []api.Const
	method api.Method

	// What is made of it till now, and which register each spot has.
	f         api.Func
	registers map[spot]int

	// The states ahead of the instruction that is under way, and ahead of the next one, and how many lie on the stack while it is done.
	ahead, behind check.State
	depth         int

	// Where what stands at each place of the stack code begins in the function.
	places []int
	// The function's instructions that lead. Till all places are known their To is one of the stack code.
	ways []int
	// The calls that there were till now, by their instructions without a place.
	callees map[api.Op]api.Ins
}

// takeParams begins with the arguments: they lie in the first locals, the object ahead.
func (k *translator) takeParams() {
	params, gives, _ := desc.Method(k.method.Desc)
	var kinds []int
	if k.method.Flags&api.FlagStatic == 0 {
		kinds = append(kinds, api.KindRef)
	}
	for _, param := range params {
		kinds = append(kinds, desc.Kind(param))
	}
	for n, kind := range kinds {
		k.f.Params = append(k.f.Params, k.local(n, kind))
	}
	k.f.Ret = desc.Kind(gives)
}

// arrive goes on to the instruction at a place, of which the states from there on are told.
func (k *translator) arrive(place int, states []check.State) {
	k.places[place] = len(k.f.Code)
	k.ahead, k.behind = states[0], check.State{}
	// Behind the last one, which ends, nothing lies that it pushed.
	if len(states) > 1 {
		k.behind = states[1]
	}
	k.depth = len(k.ahead.Stack)
}

// register is that of a spot.
func (k *translator) register(place, kind int) int {
	s := spot{place, kind}
	r, there := k.registers[s]
	if !there {
		r = len(k.f.Regs)
		k.registers[s] = r
		k.f.Regs = append(k.f.Regs, kind)
	}
	return r
}

func (k *translator) local(n, kind int) int { return k.register(n, kind) }

func (k *translator) stacked(n, kind int) int { return k.register(k.method.Locals+n, kind) }

// beside is a register for what the stack code has no place for. It is read by the same instruction that writes it.
func (k *translator) beside(kind int) int { return k.stacked(k.method.Stack, kind) }

// pop is the register of the uppermost one, which is taken off the stack.
func (k *translator) pop() int {
	k.depth--
	return k.stacked(k.depth, desc.Kind(k.ahead.Stack[k.depth]))
}

// push is the register for what is pushed: of the kind that lies there ahead of the next instruction.
func (k *translator) push() int {
	k.depth++
	return k.stacked(k.depth-1, desc.Kind(k.behind.Stack[k.depth-1]))
}

func (k *translator) add(x api.Ins) { k.f.Code = append(k.f.Code, x) }

// lead adds an instruction that leads to a place of the stack code.
func (k *translator) lead(x api.Ins) {
	k.ways = append(k.ways, len(k.f.Code))
	k.add(x)
}

// layWays has all that leads lead to places of the function.
func (k *translator) layWays() {
	for _, i := range k.ways {
		x := &k.f.Code[i]
		x.To = k.places[x.To]
	}
}

// layRows lays the rows, and behind all else, once for each place at which is caught, an instruction that catches and one that leads there:
// to the place itself others may lead, and to what catches nobody may.
func (k *translator) layRows() {
	catches := map[int]int{}
	for _, r := range k.method.Rows {
		at, there := catches[r.At]
		if !there {
			at = len(k.f.Code)
			catches[r.At] = at
			k.add(api.Ins{Op: api.OpCatch, Dst: k.stacked(0, api.KindRef)})
			k.add(api.Ins{Op: api.OpGoto, To: k.places[r.At]})
		}
		k.f.Rows = append(k.f.Rows, api.Row{From: k.places[r.From], To: k.places[r.To], At: at, Class: r.Class})
	}
}
