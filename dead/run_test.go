package dead_test

import (
	"fmt"
	"hash/fnv"
	"slices"
	"strings"
	"testing"

	"reglet/api"
	"reglet/ins"
	"reglet/num"
)

// A value is a number, or a thing by its name ("": nothing).
type value struct {
	num   int64
	thing string
}

// A word is somewhere in a thing, or a static (of no thing).
type word struct {
	thing string
	op    int
	place int64
	kind  int
}

// A trace is what a run did, in order: what was made, written, said (to whom is called) and thrown, and what was given back. After how many instructions it ended, or was left.
type trace struct {
	did   []string
	steps int
	ended bool
}

// A machine does functions instruction by instruction, by the words of layer 10. What these don't say it makes of a seed: what lay in a thing, how many places that has and what it is a kind of; and, by how much was done, what comes of a call and whether there is room for a thing. What a pure instruction makes hangs on nothing but what it reads, so that one that isn't done any more changes none of all else.
type machine struct {
	trace
	f     api.Func
	seed  uint64
	regs  []value
	words map[word]value
	sizes map[string]int64
}

// So many instructions of a run are done.
const mostSteps = 100

// run tells what a well formed function does.
func run(f api.Func, seed uint64) trace {
	m := &machine{f: f, seed: seed, regs: make([]value, len(f.Regs)), words: map[word]value{}, sizes: map[string]int64{}}
	for i, r := range f.Params {
		m.regs[r] = m.any(f.Regs[r], "argument", i)
	}
	for at := 0; !m.ended && m.steps < mostSteps; {
		at = m.step(at)
	}
	return m.trace
}

// oneOf is a number from 0 on, below n, that hangs on the seed and on the words.
func (m *machine) oneOf(n uint64, words ...any) int64 {
	h := fnv.New64a()
	fmt.Fprint(h, m.seed, words)
	return int64(h.Sum64() >> 20 % n)
}

// any is a value of a kind, by the words.
func (m *machine) any(kind int, words ...any) value {
	switch n := m.oneOf(6, words...); {
	case kind != 3:
		return value{num: n - 1}
	case n == 0:
		return value{}
	default:
		return value{thing: fmt.Sprint("thing ", n)}
	}
}

// is: does the seed say that something is so?
func (m *machine) is(words ...any) bool { return m.oneOf(3, words...) == 0 }

func (m *machine) do(what ...any) { m.did = append(m.did, fmt.Sprintln(what...)) }

// step does what is at a place, and tells the place where it goes on.
func (m *machine) step(at int) int {
	x := m.f.Code[at]
	m.steps++
	var read []value
	for _, r := range ins.Uses(x) {
		read = append(read, m.regs[r])
	}
	if x.Op == 30 {
		m.do("gives back", read)
		m.ended = true
		return at
	}
	if ins.Calls(x) {
		m.do("calls", x.Op, x.Num, x.Ref, read)
	}
	if thrown, throws := m.thrown(x, read); throws {
		return m.catch(at, thrown)
	}
	if r := ins.Def(x); r >= 0 {
		m.regs[r] = m.made(x, m.f.Regs[r], read)
	}
	m.write(x, read)
	if m.leads(x, read) {
		return x.To
	}
	return at + 1
}

// thrown is what an instruction throws, having read that, if it throws.
func (m *machine) thrown(x api.Ins, read []value) (value, bool) {
	throws := func(name string, is bool) (value, bool) { return value{thing: name}, is }
	now := len(m.did)
	switch x.Op {
	case 7:
		return throws("ZeroFault", read[0].num == 0)
	case 8:
		return throws("NullFault", read[0].thing == "")
	case 9:
		return throws("BoundsFault", read[1].num < 0 || read[1].num >= m.size(read[0].thing))
	case 10:
		return throws("SizeFault", read[0].num < 0)
	case 11:
		return throws("StoreFault", read[1].thing != "" && m.is("may not lie there", read))
	case 12:
		return throws("CastFault", read[0].thing != "" && m.is("is none", x.Ref, read))
	case 20, 21:
		return throws("MemoryFault", m.is("no room", now))
	case 23, 24, 25, 26:
		return throws(fmt.Sprint("thrown by ", now), m.is("the call throws", now, read))
	case 31:
		return read[0], true
	}
	return value{}, false
}

// made is what an instruction writes to its register of a kind, having read that.
func (m *machine) made(x api.Ins, kind int, read []value) value {
	switch x.Op {
	case 1:
		return value{num: x.Num}
	case 2:
		return value{}
	case 3:
		return value{thing: x.Ref}
	case 4:
		return read[0]
	case 5:
		return value{num: num.Two(int(x.Num), read[0].num, read[1].num)}
	case 6:
		return value{num: num.One(int(x.Num), read[0].num)}
	case 13:
		return m.word(word{read[0].thing, 14, read[1].num, kind})
	case 15:
		return value{num: m.size(read[0].thing)}
	case 16:
		return m.word(word{read[0].thing, 17, x.Num, kind})
	case 18:
		return m.word(word{"", 19, x.Num, kind})
	case 20, 21:
		name := fmt.Sprint("made by ", len(m.did))
		if x.Op == 21 {
			m.sizes[name] = read[0].num
		}
		m.do("makes", name, x.Num, x.Ref, read)
		return value{thing: name}
	case 22:
		return value{num: m.oneOf(2, "is one", x.Ref, read)}
	case 32:
		return m.regs[x.Dst]
	}
	return m.any(kind, "the call gives", len(m.did))
}

// word is what lies somewhere: what was written there last.
func (m *machine) word(w word) value {
	if v, written := m.words[w]; written {
		return v
	}
	return m.any(w.kind, "lay there", w)
}

// size is how many places a thing has.
func (m *machine) size(thing string) int64 {
	if n, told := m.sizes[thing]; told {
		return n
	}
	return m.oneOf(4, "places", thing)
}

// write does what an instruction writes elsewhere than to registers, having read that.
func (m *machine) write(x api.Ins, read []value) {
	w, last := word{op: x.Op, place: x.Num}, len(read)-1
	switch x.Op {
	case 14:
		w.thing, w.place = read[0].thing, read[1].num
	case 17:
		w.thing = read[0].thing
	case 19:
	default:
		return
	}
	w.kind = m.f.Regs[ins.Uses(x)[last]]
	m.words[w] = read[last]
	m.do("writes", w, read[last])
}

// leads: does the instruction, having read that, go on at its To?
func (m *machine) leads(x api.Ins, read []value) bool {
	switch x.Op {
	case 27:
		return true
	case 28:
		return num.Holds(x.Num, read[0].num, read[1].num)
	case 29:
		// Where there is no other one it is nothing.
		other := append(read, value{})[1]
		return (read[0] == other) == (x.Num == 0)
	}
	return false
}

// catch is the place where what is thrown at a place goes on.
func (m *machine) catch(at int, thrown value) int {
	m.do("throws", thrown)
	for _, r := range m.f.Rows {
		if r.From <= at && at < r.To && (r.Class == "" || m.is("a kind of", r.Class, thrown)) {
			m.regs[m.f.Code[r.At].Dst] = thrown
			return r.At
		}
	}
	m.do("ends by it")
	m.ended = true
	return at
}

// So many seeds are tried.
const seeds = 6

// differs tells a seed by which two functions of as many instructions do not do the same, step by step.
func differs(f, g api.Func, seeds uint64) (uint64, bool) {
	for seed := range seeds {
		a, b := run(f, seed), run(g, seed)
		if a.steps != b.steps || a.ended != b.ended || !slices.Equal(a.did, b.did) {
			return seed, true
		}
	}
	return 0, false
}

// checkSame: two functions of as many instructions do the same.
func checkSame(t *testing.T, f, g api.Func) {
	t.Helper()
	if seed, is := differs(f, g, seeds); is {
		t.Fatalf("%s does %+v, but as %s %+v", told(f), run(f, seed), told(g), run(g, seed))
	}
}

// checkSameTrimmed: so do two of which one is shorter; where a run was left it had come to something that the other one did, too.
func checkSameTrimmed(t *testing.T, f, g api.Func) {
	t.Helper()
	for seed := range uint64(seeds) {
		a, b := run(f, seed), run(g, seed)
		n := min(len(a.did), len(b.did))
		isShort := !a.ended && n == len(a.did) || !b.ended && n == len(b.did)
		if !slices.Equal(a.did[:n], b.did[:n]) || len(a.did) != len(b.did) && !isShort {
			t.Fatalf("%s does %+v, but as %s %+v", told(f), a, told(g), b)
		}
	}
}

// TestMachine: runs go all ways, and what is made, written, said and thrown hangs on what is read.
func TestMachine(t *testing.T) {
	const code = "const 1 1, add 2 1 0, zerocheck 2, putstatic 2, getstatic 3, return 3, catch 5, putfield 5 0, getfield 4 5, ifint 0 0 4 1, return 0"
	seen := map[string]int{}
	for seed := range uint64(200) {
		for _, row := range []string{"1/4:6 a", "1/4:6"} {
			run := run(fn(code, row), seed)
			all := strings.Join(run.did, "")
			for what, is := range map[string]bool{
				"gives back what it wrote": run.ended && run.steps == 6 && all == "writes { 19 2 1} {5 }\ngives back [{5 }]\n",
				"ends by it":               run.ended && all == "throws {0 ZeroFault}\nends by it\n",
				"catches":                  strings.HasPrefix(all, "throws {0 ZeroFault}\nwrites {ZeroFault 17 3 1} {-1 }\nthrows {0 ZeroFault}\n"),
				"is left":                  !run.ended && run.steps == mostSteps && len(run.did) == 33,
			} {
				if is {
					seen[what]++
				}
			}
		}
	}
	if len(seen) != 4 || seen["gives back what it wrote"] < 20 || seen["ends by it"] < 5 || seen["catches"] < 20 || seen["is left"] < 20 {
		t.Errorf("%v", seen)
	}
}

// TestMachineTells: what is read otherwise, and what isn't done any more, is told from what it was; what nobody reads isn't.
func TestMachineTells(t *testing.T) {
	for _, c := range [][2]string{
		{"const 1 2, return 1", "nop, return 1"}, {"const 0 2, putstatic 0, return -1", "nop, putstatic 0, return -1"}, {"text 5, throw 5", "nop, throw 5"},
		{"getstatic 1, call -1 1, return -1", "nop, call -1 1, return -1"}, {"getfield 1 5, zerocheck 1, return -1", "nop, zerocheck 1, return -1"},
		{"load 1 5 0, ifint 2 1 0 3, putstatic 3, return -1", "nop, ifint 2 1 0 3, putstatic 3, return -1"}, {"move 6 5, getfield 0 6, return 0", "nop, getfield 0 6, return 0"},
		{"call 0, return 0", "call 1, return 0"}, {"new 5, return -1", "nop, return -1"}, {"newarray 5 0, return -1", "newarray 5 1, return -1"},
		{"call -1, return -1", "nop, return -1"}, {"zerocheck 0, return -1", "nop, return -1"}, {"nullcheck 5, return -1", "nop, return -1"}, {"sizecheck 0, return -1", "nop, return -1"},
		{"boundcheck 5 0, return -1", "nop, return -1"}, {"storecheck 5 6, return -1", "nop, return -1"}, {"castcheck 5, return -1", "nop, return -1"},
		{"store 5 0 1, return -1", "nop, return -1"}, {"putfield 5 0, return -1", "nop, return -1"}, {"putstatic 0, return -1", "nop, return -1"},
		{"ifint 2 0 1 2, putstatic 3, return -1", "nop, putstatic 3, return -1"}, {"ifref 5 -1 2, putstatic 3, return -1", "nop, putstatic 3, return -1"}, {"goto 2, putstatic 3, return -1", "nop, putstatic 3, return -1"},
	} {
		if _, is := differs(fn(c[0]), fn(c[1]), 20); !is {
			t.Errorf("%s does what %s does", c[0], c[1])
		}
	}
	// What lay somewhere is the same, whoever reads it first.
	f := fn("getstatic 1, getfield 0 5, len 3 5, instance 4 5, load 8 5 3, putstatic 4, call -1 3, getfield 0 5, len 3 5, instance 4 5, load 8 5 3, call -1 0 3 4 8, getstatic 1, return 1")
	g := fn("nop, nop, len 3 5, instance 4 5, nop, putstatic 4, call -1 3, getfield 0 5, nop, nop, load 8 5 3, call -1 0 3 4 8, getstatic 1, return 1")
	checkSame(t, f, g)
}
