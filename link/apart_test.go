package link_test

import (
	"reflect"
	"slices"
	"sync"
	"testing"

	"reglet/api"
	"reglet/link"
)

// spoil writes over all that a value leads to, the room behind its lists too.
func spoil(v reflect.Value) {
	switch v.Kind() {
	case reflect.Slice:
		v = v.Slice(0, v.Cap())
		for i := range v.Len() {
			spoil(v.Index(i))
		}
	case reflect.Struct:
		for i := range v.NumField() {
			spoil(v.Field(i))
		}
	case reflect.Map:
		for _, key := range v.MapKeys() {
			v.SetMapIndex(key, reflect.Value{})
		}
		v.SetMapIndex(reflect.ValueOf("spoilt"), reflect.ValueOf(99))
	case reflect.String:
		v.SetString("spoilt")
	case reflect.Uint8:
		v.SetUint(99)
	default:
		v.SetInt(99)
	}
}

// widen gives all lists that a value leads to some room behind, with things in it.
func widen(v reflect.Value) {
	switch v.Kind() {
	case reflect.Slice:
		list := reflect.MakeSlice(v.Type(), 0, v.Len()+3)
		list = reflect.AppendSlice(list, v)
		spoil(list.Slice(v.Len(), list.Cap()))
		for i := range list.Len() {
			widen(list.Index(i))
		}
		v.Set(list)
	case reflect.Struct:
		for i := range v.NumField() {
			widen(v.Field(i))
		}
	}
}

// whole is a value with the room behind its lists as part of them.
func whole(v reflect.Value) {
	switch v.Kind() {
	case reflect.Slice:
		v.Set(v.Slice(0, v.Cap()))
		for i := range v.Len() {
			whole(v.Index(i))
		}
	case reflect.Struct:
		for i := range v.NumField() {
			whole(v.Field(i))
		}
	}
}

// family are classes with all that classes can have.
func family() []api.Class {
	l := told(
		"b < a: y J, static u Lb;, static v I, g ()V, f ()V, k ()I",
		"interface i: static r [J, abstract h ()V, abstract k ()I",
		"interface j < Object i: abstract h ()V",
		"abstract a < Object j i: x I, z LObject;, static s J, f ()V, static q ()J, h ()V",
	)
	a := &l[3]
	a.Methods = append(a.Methods, full())
	a.Pool = []api.Const{{}, {Kind: api.ConstText, Text: "a"}, {Kind: api.ConstInt, Num: 7}}
	return l
}

// roomy are the classes, each list with room behind it.
func roomy(l []api.Class) []api.Class {
	widen(reflect.ValueOf(&l).Elem())
	return l
}

// faulty are families that aren't taken, for a fault of each step.
func faulty() [][]api.Class {
	var all [][]api.Class
	for _, line := range []string{"a", "c < absent", "interface c: f ()V", "c: x Lz;", "c < b: static f ()V", "c: abstract f ()V"} {
		all = append(all, append(family(), told(line)...))
	}
	for _, f := range flaws() {
		all = append(all, append(family(), flawed("c", f.method)))
	}
	return all
}

func checkFamily(t *testing.T, w *link.World) {
	t.Helper()
	want, e := wantNew(family())
	if e != api.OK {
		t.Fatal(e)
	}
	checkWorld(t, w, want)
}

// TestNothingHandedInIsChanged, neither by New nor by what is asked behind it, nor by a New that fails.
func TestNothingHandedInIsChanged(t *testing.T) {
	for n, l := range append(faulty(), family()) {
		handed := roomy(l)
		kept := roomy(append(faulty(), family())[n])
		w, e := link.New(handed)
		if (e == api.OK) != (n == len(faulty())) {
			t.Fatalf("%d: %v", n, e)
		}
		if e == api.OK {
			checkFamily(t, w)
		}
		whole(reflect.ValueOf(&handed).Elem())
		whole(reflect.ValueOf(&kept).Elem())
		if !reflect.DeepEqual(handed, kept) {
			t.Errorf("%+v is %+v now", kept, handed)
		}
	}
}

// TestNothingHandedInIsKept: the world stays as it is, whatever becomes of the classes.
func TestNothingHandedInIsKept(t *testing.T) {
	l := roomy(family())
	w, e := link.New(l)
	if e != api.OK {
		t.Fatal(e)
	}
	spoil(reflect.ValueOf(&l).Elem())
	checkFamily(t, w)
}

// TestAnswersAreApart: what becomes of an answer touches neither the world nor another answer.
func TestAnswersAreApart(t *testing.T) {
	w, e := link.New(roomy(family()))
	if e != api.OK {
		t.Fatal(e)
	}
	statics, staticsToo := w.Statics(), w.Statics()
	spoil(reflect.ValueOf(&staticsToo).Elem())
	if !slices.Equal(statics, []int{3, 1, 3, 2}) || !slices.Equal(w.Statics(), statics) {
		t.Errorf("%v, and then %v", statics, w.Statics())
	}
	for id := range w.Classes() {
		info, _ := w.Info(id)
		other, _ := w.Info(id)
		third, _ := w.Info(id)
		spoil(reflect.ValueOf(&other).Elem())
		if !reflect.DeepEqual(info, third) {
			t.Errorf("Info(%d) = %+v, and then %+v", id, third, info)
		}
		spoil(reflect.ValueOf(&info.Words).Elem())
		if !slices.Equal(info.Slots, third.Slots) {
			t.Errorf("Info(%d) shares its lists: %+v", id, info)
		}
	}
	for id := range w.Methods() {
		_, m, _ := w.Method(id)
		_, other, _ := w.Method(id)
		_, third, _ := w.Method(id)
		spoil(reflect.ValueOf(&other).Elem())
		if !alike(m, third) {
			t.Errorf("Method(%d) = %+v, and then %+v", id, third, m)
		}
	}
	c, _ := w.Tree().Class("a")
	spoil(reflect.ValueOf(&c).Elem())
	checkFamily(t, w)
}

// TestParentAndChildAreApart: neither a class below nor a brother writes into a parent's lists.
func TestParentAndChildAreApart(t *testing.T) {
	l := family()
	for _, line := range []string{"c < b: w I, m ()V, g ()V", "d < b: w J, n ()V, f ()V", "e < b: w LObject;, f ()V, o ()V"} {
		l = append(l, told(line)...)
		worldOf(t, l)
	}
}

// TestAnswersHangOnNothingElse: asked again, and by several at once, a world answers the same; and so does a world that is made again.
func TestAnswersHangOnNothingElse(t *testing.T) {
	shared, e := link.New(family())
	if e != api.OK {
		t.Fatal(e)
	}
	ask := func(w *link.World) []any {
		answers := []any{w.Classes(), w.Methods(), w.Statics()}
		for id := range w.Classes() {
			info, there := w.Info(id)
			answers = append(answers, info, there, w.Class(info.Name), w.Find(info.Name, "h", "()V"), w.Slot(info.Name, "h", "()V"), w.Word(info.Name, "x", "I"))
		}
		for id := range w.Methods() {
			known, m, there := w.Method(id)
			answers = append(answers, known, m, there)
		}
		return answers
	}
	first := ask(shared)
	var all sync.WaitGroup
	for range 8 {
		all.Go(func() {
			for range 20 {
				again, _ := link.New(family())
				if !reflect.DeepEqual(ask(shared), first) || !reflect.DeepEqual(ask(again), first) {
					t.Error("a world answers otherwise than before")
				}
			}
		})
	}
	all.Wait()
}
