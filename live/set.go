package live

// together is how many registers are looked at together: those of a word, a bit each.
const together = 64

// A set is some of the registers that stand together, bit by bit from a first one on.
type set uint64

// setOf has those of the registers that stand together with the first one.
func setOf(first int, regs ...int) set {
	var s set
	for _, r := range regs {
		if r >= first && r < first+together {
			s |= 1 << uint(r-first)
		}
	}
	return s
}

// has: is the register in it that stands so far behind the first one?
func (s set) has(i int) bool { return s>>uint(i)&1 == 1 }

// without are those that aren't in the other one.
func (s set) without(other set) set { return s &^ other }
