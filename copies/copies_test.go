package copies_test

import (
	"reflect"
	"testing"

	"reglet/api"
	"reglet/copies"
)

// class has something in each of its lists, and room behind one.
func class() api.Class {
	return api.Class{
		Flags: 8, Name: "a", Super: "b", Ifaces: append(make([]string, 0, 3), "i", "j"), Pool: []api.Const{{}, {Kind: 1, Text: "t"}},
		Fields: []api.Field{{Flags: 8, Name: "x", Desc: "I"}}, Methods: []api.Method{method(), {Name: "g"}},
	}
}

func method() api.Method {
	return api.Method{
		Flags: 8, Name: "f", Desc: "()V", Stack: 1, Locals: 2, Code: []byte{0, 177}, Rows: []api.Row{{To: 1, Class: "c"}},
		Frames: []api.Frame{{Pc: 1, Locals: []string{"I"}, Stack: []string{"J"}}, {Pc: 2, Locals: []string{"N"}}},
	}
}

// spoil writes over all that a value leads to, the room behind its lists too.
func spoil(v reflect.Value) {
	switch v.Kind() {
	case reflect.Slice:
		v = v.Slice(0, v.Cap())
		for i := range v.Len() {
			spoil(v.Index(i))
		}
	case reflect.Struct:
		for i := range v.NumField() {
			spoil(v.Field(i))
		}
	case reflect.String:
		v.SetString("spoilt")
	case reflect.Uint8:
		v.SetUint(99)
	default:
		v.SetInt(99)
	}
}

func TestClass(t *testing.T) {
	c := class()
	got := copies.Class(c)
	if !reflect.DeepEqual(got, class()) || !reflect.DeepEqual(c, class()) {
		t.Errorf("%+v is copied as %+v", c, got)
	}
	spoil(reflect.ValueOf(&c).Elem())
	if !reflect.DeepEqual(got, class()) {
		t.Errorf("the copy shares a list: %+v", got)
	}
	if got := copies.Class(api.Class{}); !reflect.DeepEqual(got, api.Class{}) {
		t.Errorf("of nothing: %+v", got)
	}
}

func TestMethod(t *testing.T) {
	m := method()
	got := copies.Method(m)
	if !reflect.DeepEqual(got, method()) || !reflect.DeepEqual(m, method()) {
		t.Errorf("%+v is copied as %+v", m, got)
	}
	spoil(reflect.ValueOf(&m).Elem())
	if !reflect.DeepEqual(got, method()) {
		t.Errorf("the copy shares a list: %+v", got)
	}
	if got := copies.Method(api.Method{}); !reflect.DeepEqual(got, api.Method{}) {
		t.Errorf("of nothing: %+v", got)
	}
}
