package press

import "reglet/api"

func sameMethods(a, b api.Method) bool {
	return a.Flags == b.Flags && a.Name == b.Name && a.Desc == b.Desc &&
		a.Stack == b.Stack && a.Locals == b.Locals &&
		sameLists(a.Code, b.Code, equal) &&
		sameLists(a.Rows, b.Rows, equal) &&
		sameLists(a.Frames, b.Frames, sameFrames)
}

func sameFrames(a, b api.Frame) bool {
	return a.Pc == b.Pc && sameLists(a.Locals, b.Locals, equal) && sameLists(a.Stack, b.Stack, equal)
}

// sameLists: are they the same, thing by thing? (An empty one and none are.)
func sameLists[T any](a, b []T, same func(a, b T) bool) bool {
	if len(a) != len(b) {
		return false
	}
	for i := range a {
		if !same(a[i], b[i]) {
			return false
		}
	}
	return true
}

// equal compares things that hold no lists.
func equal[T comparable](a, b T) bool { return a == b }
