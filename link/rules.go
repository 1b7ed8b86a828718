package link

import (
	"slices"

	"reglet/api"
	"reglet/check"
	"reglet/kin"
)

// checkMembers answers the first fault that a class's own members have, by themselves or under those of its parents.
func (k *linker) checkMembers(id int) api.Errno {
	c := k.classes[id]
	switch {
	case slices.ContainsFunc(c.Methods, isStaticAndAbstract), isInterface(c.Flags) && hasCodeOrWords(c):
		return api.ErrFlags
	case slices.ContainsFunc(c.Fields, k.isUnknown):
		return api.ErrKin
	case slices.ContainsFunc(c.Methods, func(m api.Method) bool { return k.mayNotBeBelow(id, m) }):
		return api.ErrOver
	}
	return api.OK
}

func isStaticAndAbstract(m api.Method) bool { return isStatic(m.Flags) && isAbstract(m.Flags) }

// hasCodeOrWords: has a class what no interface may have?
func hasCodeOrWords(c api.Class) bool {
	return slices.ContainsFunc(c.Fields, func(f api.Field) bool { return !isStatic(f.Flags) }) ||
		slices.ContainsFunc(c.Methods, func(m api.Method) bool { return !isAbstract(m.Flags) })
}

func (k *linker) isUnknown(f api.Field) bool { return !k.world.tree.Known(f.Desc) }

// mayNotBeBelow: does a method of a class stand below one that is static while it isn't, or the other way round?
func (k *linker) mayNotBeBelow(id int, m api.Method) bool {
	if !isStatic(m.Flags) {
		return k.isBelowStatic(id, m)
	}
	above := k.world.Find(k.classes[id].Super, m.Name, m.Desc)
	return above != none && !k.world.methods[above].known.Static
}

// isBelowStatic: has one of a class's parents a static method of that name and descriptor?
func (k *linker) isBelowStatic(id int, m api.Method) bool {
	for id = k.parent(id); id != none; id = k.parent(id) {
		above := at(k.world.methodAt, member{k.classes[id].Name, m.Name, m.Desc})
		if above != none && k.world.methods[above].known.Static {
			return true
		}
	}
	return false
}

// isAbstract: is it the number of an abstract method?
func (k *linker) isAbstract(number int) bool { return k.world.methods[number].known.Abstract }

// checkEach answers the first fault that layer 8 finds in the classes' code.
func checkEach(tree *kin.Tree, l []api.Class) api.Errno {
	for _, c := range l {
		for _, m := range c.Methods {
			if isAbstract(m.Flags) {
				continue
			}
			if _, e := check.Method(tree, c, m); e != api.OK {
				return e
			}
		}
	}
	return api.OK
}

func isStatic(flags int) bool { return flags&api.FlagStatic != 0 }

func isAbstract(flags int) bool { return flags&api.FlagAbstract != 0 }

func isInterface(flags int) bool { return flags&api.FlagIface != 0 }

// mustBeWhole: may no slot of a class of these flags have an abstract method?
func mustBeWhole(flags int) bool { return !isInterface(flags) && !isAbstract(flags) }
