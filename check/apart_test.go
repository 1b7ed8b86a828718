package check_test

import (
	"reflect"
	"slices"
	"strings"
	"sync"
	"testing"

	"reglet/api"
	"reglet/check"
	"reglet/kin"
)

// spoil writes over all that a value leads to, the room behind its lists too.
func spoil(v reflect.Value) {
	switch v.Kind() {
	case reflect.Slice:
		v = v.Slice(0, v.Cap())
		for i := range v.Len() {
			spoil(v.Index(i))
		}
	case reflect.Struct:
		for i := range v.NumField() {
			spoil(v.Field(i))
		}
	case reflect.String:
		v.SetString("spoilt")
	case reflect.Uint8:
		v.SetUint(99)
	default:
		v.SetInt(99)
	}
}

// widen gives all lists that a value leads to some room behind, with things in it.
func widen(v reflect.Value) {
	switch v.Kind() {
	case reflect.Slice:
		list := reflect.MakeSlice(v.Type(), 0, v.Len()+3)
		list = reflect.AppendSlice(list, v)
		spoil(list.Slice(v.Len(), list.Cap()))
		for i := range list.Len() {
			widen(list.Index(i))
		}
		v.Set(list)
	case reflect.Struct:
		for i := range v.NumField() {
			widen(v.Field(i))
		}
	}
}

// whole is a value with the room behind its lists as part of them.
func whole(v reflect.Value) {
	switch v.Kind() {
	case reflect.Slice:
		v.Set(v.Slice(0, v.Cap()))
		for i := range v.Len() {
			whole(v.Index(i))
		}
	case reflect.Struct:
		for i := range v.NumField() {
			whole(v.Field(i))
		}
	}
}

// A both is what is handed in, in fields that can be gone through.
type both struct {
	Class  api.Class
	Method api.Method
}

// roomy is what is handed in of a subject, with room behind each list. (Its class has fields and methods, too, which nobody asks for.)
func roomy(s subject) both {
	b := both{s.class, s.method}
	b.Class.Fields = []api.Field{{Name: "x", Desc: "I"}}
	b.Class.Methods = []api.Method{s.method}
	widen(reflect.ValueOf(&b).Elem())
	return b
}

// turning changes its locals and its stack at each turn.
func turning() subject {
	return of(0, "(ILa;)I", 4, 4, "25 0, 25 2, 58 0, 58 2, 132 1 1, 25 2, 89, 25 0, 90, 95, 87, 87, 87, 87, 167 @0", frame(0, "LObject;,I,LObject;|"))
}

// using has constants of several kinds.
func using() subject {
	return of(0, "(La;)La;", 4, 3, "25 1, 180 field:a.r:La;, 58 2, 25 0, 182 method:b.f:()V, 3, 189 class:a, 87, 19 string:hi, 184 method:Sys.print:(LString;)V, 25 2, 185 iface:i.h:()V, 187 class:e, 87, 25 2, 192 class:b, 176")
}

// taken are methods that are taken.
func taken() []subject { return []subject{ordinary(), turning(), using(), flawless()} }

// handedIn are they, and such as aren't taken.
func handedIn() []both {
	var l []both
	for _, s := range taken() {
		l = append(l, roomy(s))
	}
	for _, f := range flaws() {
		l = append(l, roomy(flawless().with(f.do)))
	}
	return l
}

// TestNothingHandedInIsChanged: neither the class nor the method, nor the room behind their lists, nor the tree.
func TestNothingHandedInIsChanged(t *testing.T) {
	tree, e := kin.New(family())
	if e != api.OK {
		t.Fatal(e)
	}
	kept := handedIn()
	for i, b := range handedIn() {
		check.Method(tree, b.Class, b.Method)
		whole(reflect.ValueOf(&b).Elem())
		whole(reflect.ValueOf(&kept[i]).Elem())
		if !reflect.DeepEqual(b, kept[i]) {
			t.Errorf("%+v is %+v now", kept[i], b)
		}
	}
	other, _ := kin.New(family())
	if !reflect.DeepEqual(tree, other) {
		t.Error("the tree is changed")
	}
}

// TestAnswersAreApart: no two lists of an answer share memory, and none does with what was handed in, or another answer.
func TestAnswersAreApart(t *testing.T) {
	for _, s := range taken() {
		b := roomy(s)
		states, e := check.Method(familyTree, b.Class, b.Method)
		if e != api.OK {
			t.Fatal(e)
		}
		want := allTold(states)
		other, _ := check.Method(familyTree, b.Class, b.Method)
		spoil(reflect.ValueOf(&other).Elem())
		spoil(reflect.ValueOf(&b).Elem())
		if !slices.Equal(allTold(states), want) {
			t.Errorf("%q is %q now", want, allTold(states))
		}
		for i := range states {
			for _, list := range []*[]string{&states[i].Locals, &states[i].Stack} {
				kept := slices.Clone(*list)
				spoil(reflect.ValueOf(list).Elem())
				*list = kept
				if !slices.Equal(allTold(states), want) {
					t.Fatalf("state %d shares its lists: %q is %q now", i, want, allTold(states))
				}
			}
		}
		again, _ := check.Method(familyTree, s.class, s.method)
		if !slices.Equal(allTold(again), want) {
			t.Errorf("%q, and then %q", want, allTold(again))
		}
	}
}

// TestAnswersHangOnNothingElse: asked again, and by several at once, all is answered the same.
func TestAnswersHangOnNothingElse(t *testing.T) {
	ask := func() string {
		var text strings.Builder
		for _, b := range handedIn() {
			states, e := check.Method(familyTree, b.Class, b.Method)
			text.WriteString(strings.Join(allTold(states), " ") + e.Error())
		}
		return text.String()
	}
	first := ask()
	var all sync.WaitGroup
	for range 8 {
		all.Go(func() {
			for range 20 {
				if ask() != first {
					t.Error("a method is answered otherwise than before")
				}
			}
		})
	}
	all.Wait()
}
