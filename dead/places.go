package dead

// wide is how many bits a word of places has.
const wide = 64

// places are some of a function's, a bit each. None have no words yet: of most registers none are asked for.
type places []uint64

func (p places) has(i int) bool { return p != nil && p[i/wide]>>uint(i%wide)&1 == 1 }

// with are they, and one of n more.
func (p places) with(i, n int) places {
	if p == nil {
		p = make(places, n/wide+1)
	}
	p[i/wide] |= 1 << uint(i%wide)
	return p
}
