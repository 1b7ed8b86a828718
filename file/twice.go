package file

import "reglet/api"

// A key is what no two members of a class have in common: of fields the name alone.
type key struct{ name, descriptor string }

func fieldKeys(fields []api.Field) []key {
	var keys []key
	for _, f := range fields {
		keys = append(keys, key{name: f.Name})
	}
	return keys
}

func methodKeys(methods []api.Method) []key {
	var keys []key
	for _, m := range methods {
		keys = append(keys, key{m.Name, m.Desc})
	}
	return keys
}

// anyTwice: is one of them there twice?
func anyTwice(keys []key) bool {
	times := map[key]int{}
	for _, k := range keys {
		times[k]++
		if times[k] > 1 {
			return true
		}
	}
	return false
}
