package flow_test

import (
	"crypto/sha256"
	"fmt"
	"slices"
	"strings"
	"testing"

	"reglet/api"
	"reglet/ins"
	"reglet/num"
)

// A machine does functions instruction by instruction. What it doesn't know (what is read elsewhere, what comes of a call, whether something throws, and what that is a kind of) it makes of a seed, and of what was done so far.
type machine struct {
	f    api.Func
	seed uint64
	regs []int64
	// What was done, but for OpNop, with what it read.
	done []string
}

// So much of a run is looked at.
const mostDone = 40

// run tells what a well formed function does, in order, and how it ends.
func run(f api.Func, seed uint64) []string {
	m := &machine{f: f, seed: seed, regs: make([]int64, len(f.Regs))}
	for i, r := range f.Params {
		m.regs[r] = m.any("argument", i)
	}
	for at := 0; at >= 0 && len(m.done) < mostDone; {
		at = m.step(at)
	}
	return m.done
}

// any is a small number that hangs on the seed, on what was done, and on the words.
func (m *machine) any(words ...any) int64 {
	sum := sha256.Sum256([]byte(fmt.Sprint(m.seed, len(m.done), words)))
	return int64(sum[0] % 3)
}

// step does what is at a place, and tells the place where it goes on; -1: nowhere.
func (m *machine) step(at int) int {
	x := m.f.Code[at]
	if x.Op == 33 {
		return at + 1
	}
	var read []int64
	for _, r := range ins.Uses(x) {
		read = append(read, m.regs[r])
	}
	m.do(x.Op, ins.Def(x), x.Num, x.Ref, read)
	switch {
	case x.Op == 31, ins.Throws(x) && m.any("throws", x.Op) == 0:
		return m.catch(at)
	case x.Op == 30:
		return -1
	}
	if r := ins.Def(x); r >= 0 {
		m.regs[r] = m.any("writes", x.Op, x.Num, x.Ref, read)
	}
	if m.leads(x, read) {
		return x.To
	}
	return at + 1
}

// leads: does the instruction, having read that, go on at its To?
func (m *machine) leads(x api.Ins, read []int64) bool {
	switch x.Op {
	case 27:
		return true
	case 28:
		return num.Holds(x.Num, read[0], read[1])
	case 29:
		other := int64(0)
		if len(read) > 1 {
			other = read[1]
		}
		return (read[0] == other) == (x.Num == 0)
	}
	return false
}

// catch is the place where what is thrown at a place goes on.
func (m *machine) catch(at int) int {
	for _, r := range m.f.Rows {
		if isAbout(r, at) && (r.Class == "" || m.any("is a", r.Class) == 0) {
			return r.At
		}
	}
	m.do("ends by it")
	return -1
}

func (m *machine) do(what ...any) { m.done = append(m.done, fmt.Sprint(what...)) }

// TestMachine: what functions do must differ where they do, and go all ways.
func TestMachine(t *testing.T) {
	f := fn("print 0, call 1, nop, print 1, return -1, catch 2, print 2, goto 0", "1/2:5 a", "0/4:5 b")
	seen := map[string]int{}
	for seed := range uint64(60) {
		l := run(f, seed)
		if !slices.Equal(run(f, seed), l) {
			t.Fatal("the same run isn't the same again")
		}
		switch last := l[len(l)-1]; {
		case last == "ends by it":
			seen["thrown"]++
		case strings.HasPrefix(last, "30 "):
			seen["returns"]++
		}
		if slices.ContainsFunc(l, func(s string) bool { return strings.HasPrefix(s, "32 ") }) {
			seen["caught"]++
		}
	}
	if seen["thrown"] < 5 || seen["returns"] < 5 || seen["caught"] < 5 {
		t.Errorf("%v", seen)
	}
	for name, g := range map[string]api.Func{
		"another number": fn("const 0, return -1"), "another register": fn("const 1, return -1"),
		"another order": fn("print 0, const 0, return -1"), "another catcher": fn("call -1, return -1, catch 2, return -1", "0/1:2 a"),
		"an endless one": fn("print 0, goto 0"), "another way": fn("if 0 1 2, print 0, print 1, return -1"),
	} {
		h := ins.Copy(g)
		switch name {
		case "another number":
			h.Code[0].Num = 8
		case "another register":
			h.Code[0].Dst = 0
		case "another order":
			h.Code[0], h.Code[1] = h.Code[1], h.Code[0]
		case "another catcher":
			h.Rows = nil
		case "an endless one":
			h.Code[1] = api.Ins{Op: 30, A: -1}
		case "another way":
			h.Code[0].Num = 1
		}
		if !slices.ContainsFunc(counted(30), func(seed int) bool { return !slices.Equal(run(g, uint64(seed)), run(h, uint64(seed))) }) {
			t.Errorf("%s makes no difference", name)
		}
	}
}
