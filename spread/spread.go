// Package spread is for the layers that ask what may hold at the places of a function on any of its ways: these are told there and back, and marks, bits of a word, go from place to place until none of them is new.
package spread

import "slices"

// Marks adds to the marks of each place what other places bring to it. The places of todo are done first, the last of them ahead of all others, and any place again when something new was brought to it; do brings what lies at a place to where it goes.
func Marks[S ~uint64](marks []S, todo []int, do func(i int, bring func(to int, more S))) {
	todo = slices.Clone(todo)
	waits := make([]bool, len(marks))
	for _, i := range todo {
		waits[i] = true
	}
	bring := func(to int, more S) {
		if more&^marks[to] == 0 {
			return
		}
		marks[to] |= more
		if !waits[to] {
			waits[to] = true
			todo = append(todo, to)
		}
	}
	for len(todo) > 0 {
		i := todo[len(todo)-1]
		todo = todo[:len(todo)-1]
		waits[i] = false
		do(i, bring)
	}
}
