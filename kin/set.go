package kin

// A set of names.
type set map[string]struct{}

func (s set) add(name string) { s[name] = struct{}{} }

func (s set) has(name string) bool {
	_, there := s[name]
	return there
}
