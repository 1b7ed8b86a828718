package link

import "reglet/api"

// A signature is what a slot is found by.
type signature struct{ name, descriptor string }

// A member is a field or a method: who has it, its name, its descriptor.
type member struct{ class, name, descriptor string }

// at is where a map leads from a key.
func at[K comparable](m map[K]int, key K) int {
	if n, there := m[key]; there {
		return n
	}
	return none
}

// enter lets a key lead to a number, unless it leads to one: of two members of one name it is the first that layer 7 means, too.
func enter[K comparable](m map[K]int, key K, n int) {
	if at(m, key) == none {
		m[key] = n
	}
}

// A held method is one as the world knows it, and as its class has it.
type held struct {
	known  api.Known
	method api.Method
}

func (m held) signature() signature { return signature{m.known.Name, m.known.Desc} }

// A laid class is one whose objects' words and whose slots have their places.
type laid struct {
	name string
	// The parent's number.
	super int
	// The words' kinds.
	words []int
	// The numbers of the methods in the slots, and the slots of the methods.
	slots  []int
	slotAt map[signature]int
}

// offer gives a method a new slot, unless there is one of its name and descriptor.
func (c *laid) offer(number int, s signature) {
	if at(c.slotAt, s) == none {
		c.slotAt[s] = len(c.slots)
		c.slots = append(c.slots, number)
	}
}

// take gives a method the slot of its name and descriptor, be it new or not.
func (c *laid) take(number int, s signature) {
	c.offer(number, s)
	c.slots[c.slotAt[s]] = number
}
