package dead

import (
	"slices"

	"reglet/api"
	"reglet/ins"
	"reglet/live"
	"reglet/spread"
)

// A sweep knows what is live while instructions are taken away, one because of another: to ask for all that is live anew after each of a long row would take far too long.
type sweep struct {
	ways spread.Ways
	// What each place writes, and what it reads: nothing any more, if it was taken away.
	defs []int
	uses [][]int
	// What was live at first; for each register whether it was where something is caught, and the places ahead of which it was and isn't any more.
	table    *live.Table
	isCaught []bool
	lost     []places
	// How many searches there were, and which of them was the last at each place.
	searches int
	been     []int
}

func newSweep(f api.Func, table *live.Table) *sweep {
	n := len(f.Code)
	s := &sweep{ways: spread.WaysOf(f), table: table, defs: make([]int, n), uses: make([][]int, n), been: make([]int, n)}
	s.isCaught, s.lost = make([]bool, len(f.Regs)), make([]places, len(f.Regs))
	for i, x := range f.Code {
		s.defs[i], s.uses[i] = ins.Def(x), ins.Uses(x)
		if len(s.ways.Catches[i]) > 0 {
			s.noteCaught(i)
		}
	}
	return s
}

// noteCaught notes the registers that are live at a place where something is caught.
func (s *sweep) noteCaught(at int) {
	for r := range s.isCaught {
		if s.table.Before(at, r) {
			s.isCaught[r] = true
		}
	}
}

// take takes the instruction at a place away, and tells the places that wrote what isn't live any more for that.
func (s *sweep) take(i int) []int {
	var writers []int
	reads := s.uses[i]
	s.uses[i] = nil
	for _, r := range reads {
		todo := s.lose(nil, i, r)
		for len(todo) > 0 {
			at := todo[len(todo)-1]
			todo = s.loseAhead(todo[:len(todo)-1], at, r)
			writers = append(writers, s.writers(at, r)...)
		}
	}
	return writers
}

// lose adds to a list the places from one on, that one too, ahead of which a register was live so far, and isn't any more: none, if one of them reads it.
func (s *sweep) lose(l []int, at, r int) []int {
	s.searches++
	first := len(l)
	come := func(to int) {
		if s.been[to] < s.searches && s.isLive(to, r) {
			s.been[to] = s.searches
			l = append(l, to)
		}
	}
	come(at)
	for k := first; k < len(l); k++ {
		i := l[k]
		if slices.Contains(s.uses[i], r) {
			return l[:first]
		}
		if s.defs[i] != r {
			for _, to := range s.ways.Next[i] {
				come(to)
			}
		}
		// What throws doesn't write.
		for _, to := range s.caught(i, r) {
			come(to)
		}
	}
	for _, i := range l[first:] {
		s.lost[r] = s.lost[r].with(i, len(s.defs))
	}
	return l
}

// loseAhead does so from all places from which one comes to one.
func (s *sweep) loseAhead(l []int, at, r int) []int {
	for _, from := range s.ways.Prior[at] {
		l = s.lose(l, from, r)
	}
	for _, stretch := range s.ways.Catches[at] {
		for _, from := range s.ways.Throwing[stretch] {
			l = s.lose(l, from, r)
		}
	}
	return l
}

// writers are the places that write a register and go on to one. What is pure goes on to the next place alone, so that its register is dead, if it isn't live there.
func (s *sweep) writers(at, r int) []int {
	var l []int
	for _, from := range s.ways.Prior[at] {
		if s.defs[from] == r {
			l = append(l, from)
		}
	}
	return l
}

// caught are the places at which what a place throws is caught; none, if the register is live at no such place.
func (s *sweep) caught(i, r int) []int {
	stretch := s.ways.Stretch[i]
	if stretch == spread.None || !s.isCaught[r] {
		return nil
	}
	return s.ways.Caught[stretch]
}

// isLive: is a register live ahead of a place, as things stand?
func (s *sweep) isLive(i, r int) bool { return s.table.Before(i, r) && !s.lost[r].has(i) }
