package check

// filled is a list of n types: those of l, and "" behind them.
func filled(l []string, n int) []string {
	types := make([]string, n)
	copy(types, l)
	return types
}

// copied is the state in memory of its own: the one that is under way is changed by each instruction.
func (s State) copied() State {
	return State{Locals: filled(s.Locals, len(s.Locals)), Stack: filled(s.Stack, len(s.Stack))}
}

// fits: may a state go on as another one?
func (k *checker) fits(s, want State) bool {
	return len(s.Stack) == len(want.Stack) && k.allFit(s.Locals, want.Locals) && k.allFit(s.Stack, want.Stack)
}

// allFit: does each type fit where it stands? There must be as many of both.
func (k *checker) allFit(types, wanted []string) bool {
	for i, want := range wanted {
		if !k.tree.Fits(types[i], want) {
			return false
		}
	}
	return true
}
