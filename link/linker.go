package link

import (
	"maps"
	"slices"

	"reglet/api"
	"reglet/desc"
	"reglet/kin"
)

// A linker makes a world out of a tree.
type linker struct {
	world *World
	// The classes by their numbers, as the tree has them, and the numbers of each one's methods.
	classes []api.Class
	methods [][]int
}

// numbered begins with what hangs on the classes' order alone: all numbers.
func numbered(tree *kin.Tree) *linker {
	k := &linker{world: &World{tree: tree, classAt: map[string]int{}, methodAt: map[member]int{}, wordAt: map[member]int{}, staticAt: map[member]int{}}}
	for id, name := range tree.Names() {
		c, _ := tree.Class(name)
		k.world.classAt[name] = id
		k.classes = append(k.classes, c)
		k.methods = append(k.methods, k.world.numberMethods(c))
		k.world.numberStatics(c)
	}
	k.world.classes = make([]laid, len(k.classes))
	return k
}

// numberMethods answers the numbers that the methods of a class have got.
func (w *World) numberMethods(c api.Class) []int {
	var numbers []int
	for _, m := range c.Methods {
		number := len(w.methods)
		known := api.Known{Class: c.Name, Name: m.Name, Desc: m.Desc, Static: isStatic(m.Flags), Native: kin.Native(c.Name, m.Name, m.Desc), Abstract: isAbstract(m.Flags)}
		w.methods = append(w.methods, held{known, m})
		enter(w.methodAt, member{c.Name, m.Name, m.Desc}, number)
		numbers = append(numbers, number)
	}
	return numbers
}

func (w *World) numberStatics(c api.Class) {
	for _, f := range c.Fields {
		if isStatic(f.Flags) {
			enter(w.staticAt, member{c.Name, f.Name, f.Desc}, len(w.statics))
			w.statics = append(w.statics, desc.Kind(f.Desc))
		}
	}
}

// parentsFirst are the classes' numbers in their order, but each parent ahead of who stands below it.
func (k *linker) parentsFirst() []int {
	var order []int
	for id := range k.classes {
		end := len(order)
		for id != none && !slices.Contains(order, id) {
			// Ahead of who was put there just now and stands below it.
			order = slices.Insert(order, end, id)
			id = k.parent(id)
		}
	}
	return order
}

// parent is the number of a class's parent.
func (k *linker) parent(id int) int { return k.world.Class(k.classes[id].Super) }

// lay gives the words and slots of a class their places, if nothing is wrong with its members. Its parent must be laid.
func (k *linker) lay(id int) api.Errno {
	if e := k.checkMembers(id); e != api.OK {
		return e
	}
	c := laid{name: k.classes[id].Name, super: k.parent(id), slotAt: map[signature]int{}}
	if c.super != none {
		parent := k.world.classes[c.super]
		c.words = slices.Clone(parent.words)
		c.slots, c.slotAt = slices.Clone(parent.slots), maps.Clone(parent.slotAt)
	}
	k.layWords(id, &c)
	k.laySlots(id, &c)
	k.world.classes[id] = c
	if mustBeWhole(k.classes[id].Flags) && slices.ContainsFunc(c.slots, k.isAbstract) {
		return api.ErrAbstract
	}
	return api.OK
}

// layWords lays a class's own words behind its parent's.
func (k *linker) layWords(id int, c *laid) {
	for _, f := range k.classes[id].Fields {
		if !isStatic(f.Flags) {
			enter(k.world.wordAt, member{c.name, f.Name, f.Desc}, len(c.words))
			c.words = append(c.words, desc.Kind(f.Desc))
		}
	}
}

// laySlots puts a class's own methods into slots, and finds slots for those of the interfaces above it.
func (k *linker) laySlots(id int, c *laid) {
	if isInterface(k.classes[id].Flags) {
		return
	}
	for _, number := range k.methods[id] {
		if m := k.world.methods[number]; !m.known.Static {
			c.take(number, m.signature())
		}
	}
	for _, name := range k.world.tree.Above(c.name) {
		above := k.world.Class(name)
		if !isInterface(k.classes[above].Flags) {
			continue
		}
		for _, number := range k.methods[above] {
			c.offer(number, k.world.methods[number].signature())
		}
	}
}
