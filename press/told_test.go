package press_test

import (
	"math"
	"reflect"
	"slices"
	"strconv"
	"strings"
	"testing"

	"reglet/api"
	"reglet/file"
	"reglet/press"
)

// The flags, as the chapters say them.
const (
	staticFlag     = 0x8
	abstractFlag   = 0x400
	interfaceFlags = 0x600
)

// A gatherer finds all constants that a class wants.
type gatherer struct{ pool []api.Const }

// want takes a constant, and those that it names itself.
func (g *gatherer) want(c api.Const) {
	if slices.Contains(g.pool, c) {
		return
	}
	switch c.Kind {
	case 7, 8:
		g.text(c.Text)
	case 9, 10, 11:
		g.class(c.Text)
		g.text(c.Name)
		g.text(c.Desc)
	}
	g.pool = append(g.pool, c)
}

func (g *gatherer) text(s string)  { g.want(api.Const{Kind: 1, Text: s}) }
func (g *gatherer) class(s string) { g.want(api.Const{Kind: 7, Text: s}) }

func (g *gatherer) types(types []string) {
	for _, s := range types {
		if s != "" && s[0] == '[' {
			g.class(s)
		} else if s != "" && s[0] == 'L' {
			g.class(strings.TrimSuffix(s[1:], ";"))
		}
	}
}

func (g *gatherer) method(m api.Method) {
	g.text(m.Name)
	g.text(m.Desc)
	for _, r := range m.Rows {
		if r.Class != "" {
			g.class(r.Class)
		}
	}
	for _, f := range m.Frames {
		g.types(f.Locals)
		g.types(f.Stack)
	}
}

// pooled is a class with a pool: constant 0, these constants, and all that are wanted.
func pooled(c api.Class, consts ...api.Const) api.Class {
	g := gatherer{[]api.Const{{}}}
	for _, x := range consts {
		g.want(x)
	}
	g.class(c.Name)
	g.class(c.Super)
	for _, name := range c.Ifaces {
		g.class(name)
	}
	for _, f := range c.Fields {
		g.text(f.Name)
		g.text(f.Desc)
	}
	for _, m := range c.Methods {
		g.method(m)
	}
	c.Pool = g.pool
	return c
}

// shortest is the class with the fewest parts.
var shortest = api.Class{Name: "a", Super: "Object"}

// withMethods and withFields are that class with members.
func withMethods(methods ...api.Method) api.Class {
	c := shortest
	c.Methods = methods
	return c
}

func withFields(fields ...api.Field) api.Class {
	c := shortest
	c.Fields = fields
	return c
}

// numbered is n different names.
func numbered(n int) []string {
	names := make([]string, n)
	for i := range names {
		names[i] = "n" + strconv.Itoa(i)
	}
	return names
}

// clone is a class that shares no list with another one.
func clone(c api.Class) api.Class {
	return copyOf(reflect.ValueOf(c)).Interface().(api.Class)
}

// copyOf goes down into all lists. An empty one stays empty, and none stays none.
func copyOf(v reflect.Value) reflect.Value {
	made := reflect.New(v.Type()).Elem()
	made.Set(v)
	switch {
	case v.Kind() == reflect.Struct:
		for i := range v.NumField() {
			made.Field(i).Set(copyOf(v.Field(i)))
		}
	case v.Kind() == reflect.Slice && !v.IsNil():
		made.Set(reflect.MakeSlice(v.Type(), v.Len(), v.Len()))
		for i := range v.Len() {
			made.Index(i).Set(copyOf(v.Index(i)))
		}
	}
	return made
}

// A spot is a number, a text or a list in a class, at whatever depth.
type spot struct {
	path  string
	value reflect.Value
}

// held is what lies there now. (Of a list not a copy: the spots in it must stay in it.)
func (s spot) held() reflect.Value { return reflect.ValueOf(s.value.Interface()) }

// spotsOf are all those of a class, which can be changed through them.
func spotsOf(c *api.Class) []spot { return spots("", reflect.ValueOf(c).Elem()) }

func spots(path string, v reflect.Value) []spot {
	switch v.Kind() {
	case reflect.Struct:
		var all []spot
		for i := range v.NumField() {
			all = append(all, spots(path+"."+v.Type().Field(i).Name, v.Field(i))...)
		}
		return all
	case reflect.Slice:
		all := []spot{{path, v}}
		for i := range v.Len() {
			all = append(all, spots(path+"["+strconv.Itoa(i)+"]", v.Index(i))...)
		}
		return all
	}
	return []spot{{path, v}}
}

// others are values that a spot may have instead of its own, near to it and far.
func others(v reflect.Value) []reflect.Value {
	var all []reflect.Value
	switch v.Kind() {
	case reflect.Slice:
		return otherLists(v)
	case reflect.String:
		old := v.String()
		for _, s := range []string{"", "-", "a", "b", "f", "Object", "I", "J", "N", "V", "La;", "LI;", "L[I;", "L;", "[", "[I", "[[La;", "[[[[[[[[[I", "()V", "(I)I", "<init>", old + "x", "L" + old + ";", "[" + old, strings.Repeat("n", 61)} {
			all = append(all, reflect.ValueOf(s))
		}
	case reflect.Uint8:
		old := byte(v.Uint())
		for _, n := range []byte{0, 1, 255, old + 1, old - 1, old ^ 0x80} {
			all = append(all, reflect.ValueOf(n))
		}
	default:
		old := v.Int()
		for _, n := range []int64{
			0, 1, 3, 5, 7, 8, 20, 21, 40, 41, 0x200, 0x400, 0x408, 0x600, 65535, 65536, -1, -2, math.MinInt64, math.MaxInt64, math.MinInt32, math.MaxInt32, math.MinInt32 - 1, math.MaxInt32 + 1,
			old + 1, old - 1, -old, ^old, old + 1<<8, old - 1<<8, old + 1<<16, old - 1<<16, old + 1<<32, old - 1<<32, old ^ -1<<63, old ^ 1<<15, old ^ 1<<31,
		} {
			all = append(all, reflect.ValueOf(n).Convert(v.Type()))
		}
	}
	return all
}

// otherLists are shorter and longer ones, in another order, and such that a count of one byte doesn't tell.
func otherLists(v reflect.Value) []reflect.Value {
	n := v.Len()
	all := []reflect.Value{reflect.Zero(v.Type()), reflect.MakeSlice(v.Type(), 0, 0), reflect.MakeSlice(v.Type(), n+1, n+1)}
	if n == 0 {
		return all
	}
	first := v.Slice(0, 1)
	long := v
	for long.Len() < 256 {
		long = reflect.AppendSlice(copyOf(long), v)
	}
	return append(all,
		v.Slice(1, n), v.Slice(0, n-1), reflect.AppendSlice(copyOf(first), v), reflect.AppendSlice(copyOf(v), first),
		reflect.AppendSlice(copyOf(v.Slice(1, n)), first), long.Slice(0, 255), long.Slice(0, 256), reflect.AppendSlice(copyOf(long.Slice(0, 256)), v))
}

// checkWrite holds Write against the bytes that are wanted; nil: there is no such file.
func checkWrite(t *testing.T, c api.Class, want []byte) {
	t.Helper()
	before := clone(c)
	got, e := press.Write(c)
	switch {
	case want == nil && (got != nil || e != api.ErrArg):
		t.Fatalf("Write(%+v) = % x, %v, want ErrArg", c, got, e)
	case want != nil && (!slices.Equal(got, want) || e != api.OK):
		t.Fatalf("Write(%+v) = % x, %v, want % x", c, got, e, want)
	case !reflect.DeepEqual(c, before):
		t.Fatalf("Write changes %+v to %+v", before, c)
	}
	if want != nil {
		checkBack(t, c, got)
	}
}

// checkBack: what was written must be parsed as the class.
func checkBack(t *testing.T, c api.Class, written []byte) {
	t.Helper()
	parsed, e := file.Parse(written)
	if e != api.OK || !reflect.DeepEqual(plain(parsed), plain(c)) {
		t.Fatalf("% x is parsed as %+v, %v, want %+v", written, parsed, e, c)
	}
}

// plain is a class without empty lists: they are none, as the words want it.
func plain(c api.Class) api.Class {
	c = clone(c)
	for _, s := range spotsOf(&c) {
		if s.value.Kind() == reflect.Slice && s.value.Len() == 0 {
			s.value.SetZero()
		}
	}
	return c
}

// checkWritten: there is such a file, and it is as the reference tells it.
func checkWritten(t *testing.T, c api.Class) {
	t.Helper()
	want := wantWrite(c)
	if want == nil {
		t.Fatalf("the reference knows no file of %+v", c)
	}
	checkWrite(t, c, want)
}

// checkRefused: there is no such file. The reference must know it too, so that it is no worse than what is told one by one.
func checkRefused(t *testing.T, c api.Class) {
	t.Helper()
	checkWrite(t, c, nil)
	if wantWrite(c) != nil {
		t.Fatalf("the reference knows a file of %+v", c)
	}
}
