package press_test

import (
	"math/rand"
	"reflect"
	"testing"

	"reglet/api"
	"reglet/press"
)

// checkSame holds two classes against each other, in both orders.
func checkSame(t *testing.T, a, b api.Class, want bool) {
	t.Helper()
	beforeA, beforeB := clone(a), clone(b)
	if press.Same(a, b) != want || press.Same(b, a) != want {
		t.Fatalf("Same(%+v, %+v) isn't %v", a, b, want)
	}
	if !reflect.DeepEqual(a, beforeA) || !reflect.DeepEqual(b, beforeB) {
		t.Fatalf("Same changes %+v, %+v", a, b)
	}
}

// wantSame is the reference's word.
func wantSame(a, b api.Class) bool { return reflect.DeepEqual(plain(a), plain(b)) }

func TestSameClasses(t *testing.T) {
	for _, c := range []api.Class{{}, shortest, pooled(shortest), ordinary()} {
		checkSame(t, c, c, true)
		checkSame(t, c, clone(c), true)
	}
	checkSame(t, shortest, pooled(shortest), false)
	checkSame(t, api.Class{}, ordinary(), false)
}

// TestSameIsAskedEverywhere: a class that differs in one spot alone is another one, whether it is one that a file could hold or not.
func TestSameIsAskedEverywhere(t *testing.T) {
	spot, same := 0, 0
	of := ordinary()
	c := clone(of)
	for _, s := range spotsOf(&c) {
		spot++
		was := s.held()
		for _, other := range others(s.value) {
			s.value.Set(other)
			want := wantSame(of, c)
			if want {
				same++
			} else if s.value.Kind() != reflect.Slice && s.value.Equal(was) {
				t.Fatalf("%s is as it was", s.path)
			}
			checkSame(t, of, c, want)
			s.value.Set(was)
		}
	}
	if spot < 140 || same < 100 {
		t.Errorf("only %d spots, of which %d values are the same", spot, same)
	}
	checkSame(t, of, c, true)
}

// TestEmptyListsAreNone in each place where there may be a list.
func TestEmptyListsAreNone(t *testing.T) {
	none := api.Class{Methods: []api.Method{{Frames: []api.Frame{{}}}, {}}}
	empty := clone(none)
	for _, s := range spotsOf(&empty) {
		if s.value.Kind() != reflect.Slice || s.value.Len() > 0 {
			continue
		}
		s.value.Set(reflect.MakeSlice(s.value.Type(), 0, 3))
		checkSame(t, none, empty, true)
		one := clone(empty)
		for _, x := range spotsOf(&one) {
			if x.path == s.path {
				x.value.Set(reflect.MakeSlice(x.value.Type(), 1, 1))
			}
		}
		checkSame(t, none, one, false)
		checkSame(t, empty, one, false)
	}
	checkSame(t, api.Class{}, api.Class{Ifaces: []string{}, Pool: []api.Const{}, Fields: []api.Field{}, Methods: []api.Method{}}, true)
	checkSame(t, withMethods(), withMethods(api.Method{}), false)
}

// TestSameAtTheLists: they are held against each other thing by thing, to their ends.
func TestSameAtTheLists(t *testing.T) {
	name := func(names ...string) api.Class { return api.Class{Ifaces: names} }
	checkSame(t, name("a", "b"), name("a", "b"), true)
	for _, c := range []api.Class{name("a"), name("b"), name("b", "a"), name("a", "b", "b"), name("a", "c"), name("c", "b"), name("a", ""), name("ab")} {
		checkSame(t, name("a", "b"), c, false)
	}
	// The same texts in other lists make another class.
	checkSame(t, withMethods(api.Method{Frames: []api.Frame{{Locals: []string{"I"}}}}), withMethods(api.Method{Frames: []api.Frame{{Stack: []string{"I"}}}}), false)
	checkSame(t, withMethods(api.Method{Code: []byte{1}}, api.Method{}), withMethods(api.Method{}, api.Method{Code: []byte{1}}), false)
	checkSame(t, api.Class{Name: "a"}, api.Class{Super: "a"}, false)
}

func TestSameAtRandomClasses(t *testing.T) {
	r := rand.New(rand.NewSource(5))
	for range 1000 {
		a := randomClass(r, 1+r.Intn(3))
		b := clone(a)
		checkSame(t, a, b, true)
		s := pick(r, spotsOf(&b)...)
		s.value.Set(pick(r, others(s.value)...))
		checkSame(t, a, b, wantSame(a, b))
		c := randomClass(r, 1)
		checkSame(t, a, c, wantSame(a, c))
	}
}
