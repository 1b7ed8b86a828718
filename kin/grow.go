package kin

import (
	"reglet/api"
	"reglet/copies"
	"reglet/desc"
)

// isMisnamed: may no class be named so?
func isMisnamed(c api.Class) bool { return !desc.Name(c.Name, false) }

func isInterface(c api.Class) bool { return c.Flags&api.FlagIface != 0 }

// enter puts classes into the tree; false: two have one name.
func (t *Tree) enter(l []api.Class) bool {
	for _, c := range l {
		if _, there := t.classes[c.Name]; there {
			return false
		}
		t.names = append(t.names, c.Name)
		t.classes[c.Name] = copies.Class(c)
	}
	return true
}

// hasKin: may a class have the parent and the interfaces that it names?
func (t *Tree) hasKin(c api.Class) bool {
	return t.mayBeBelow(c, c.Super) && t.areInterfaces(c.Ifaces)
}

// mayBeBelow: may it have a class of that name as its parent?
func (t *Tree) mayBeBelow(c api.Class, parent string) bool {
	p, there := t.classes[parent]
	if !there || isInterface(p) || parent == text || parent == system {
		return false
	}
	return parent == object || !isInterface(c)
}

// areInterfaces: are these names of interfaces, none of them there twice?
func (t *Tree) areInterfaces(names []string) bool {
	named := set{}
	for _, name := range names {
		// What isn't there has no flags, so that it is none.
		if named.has(name) || !isInterface(t.classes[name]) {
			return false
		}
		named.add(name)
	}
	return true
}

// climb finds out who stands above whom; false: a class stands above itself.
func (t *Tree) climb() bool {
	for name, c := range t.classes {
		above := set{}
		t.gatherKin(c, above)
		// It isn't put in until now: only by a circle it is there.
		if above.has(name) {
			return false
		}
		above.add(name)
		t.above[name] = above
	}
	return true
}

// gatherKin puts into a set whoever stands above a class, but itself.
func (t *Tree) gatherKin(c api.Class, above set) {
	// Nobody is named "": so Object's parent isn't there.
	if _, there := t.classes[c.Super]; there {
		t.gather(c.Super, above)
	}
	for _, name := range c.Ifaces {
		t.gather(name, above)
	}
}

// gather puts a class in, and whoever stands above it. It doesn't go on where it was before, so that it ends in a circle too.
func (t *Tree) gather(name string, above set) {
	if above.has(name) {
		return
	}
	above.add(name)
	t.gatherKin(t.classes[name], above)
}
