package dead_test

import (
	"reflect"
	"slices"
	"sync"
	"testing"

	"reglet/api"
	"reglet/dead"
	"reglet/ins"
)

// roomy is a list with things in the room behind it.
func roomy[T any](l []T, behind T) []T {
	l = append(slices.Clip(l), behind, behind)
	return l[:len(l)-2]
}

func room[T any](l []T) []T { return l[:cap(l)] }

// roomyFunc has all that a function can have, and something to take away of several sorts, with room behind each list.
func roomyFunc() api.Func {
	f := fn("const 0 2, move 1 0, add 2 0 1, call 3 2 1 0, ifint 1 0 0 0, return 2, getstatic 2, callvirtual -1 5 2, move 3 2, move 4 3, return 1, catch 6, const 1 8, negative 1 1, ifint 0 1 1 5, nop, return 1", "1/6:11 a", "5/6:11")
	f.Regs, f.Params, f.Rows, f.Code = roomy(f.Regs, 9), roomy(f.Params, 9), roomy(f.Rows, api.Row{At: 9}), roomy(f.Code, api.Ins{Op: 9, Args: []int{9}})
	f.Code[2].Args, f.Code[9].Args, f.Code[14].Args = []int{1, 1}, []int{1, 1}, []int{1, 1}
	for i, x := range f.Code {
		f.Code[i].Args = roomy(x.Args, 9)
	}
	return f
}

// plainFunc has nothing that is dead.
func plainFunc() api.Func {
	f := roomyFunc()
	f.Code[8].Op, f.Code[9].Op = 33, 33
	return f
}

// refusedFunc isn't well formed.
func refusedFunc() api.Func {
	f := roomyFunc()
	f.Code[14].To = 99
	return f
}

var kinds = map[string]func() api.Func{"with dead ones": roomyFunc, "plain": plainFunc, "refused": refusedFunc, "empty": func() api.Func { return api.Func{} }}

// whole is a function with the room behind its lists as part of them.
func whole(f api.Func) api.Func {
	f.Regs, f.Params, f.Rows, f.Code = room(f.Regs), room(f.Params), room(f.Rows), slices.Clone(room(f.Code))
	for i, x := range f.Code {
		f.Code[i].Args = room(x.Args)
	}
	return f
}

// fill writes over a list and the room behind it.
func fill[T any](l []T, by T) {
	l = room(l)
	for i := range l {
		l[i] = by
	}
}

// spoil writes over all that a function leads to.
func spoil(f api.Func) {
	fill(f.Regs, 88)
	fill(f.Params, 88)
	fill(f.Rows, api.Row{From: 88})
	for _, x := range f.Code {
		fill(x.Args, 88)
	}
	fill(f.Code, api.Ins{Op: 88})
}

// TestNothingHandedInIsChanged, nor the room behind it.
func TestNothingHandedInIsChanged(t *testing.T) {
	for what, make := range kinds {
		f := make()
		dead.Pass(f)
		if !reflect.DeepEqual(whole(f), whole(make())) {
			t.Errorf("%s: %+v is %+v now", what, whole(make()), whole(f))
		}
	}
}

// TestAnswersAreApart: what becomes of a function touches no answer, and what becomes of an answer touches neither the function nor another answer.
func TestAnswersAreApart(t *testing.T) {
	for what, make := range kinds {
		f := make()
		first, second := dead.Pass(f), dead.Pass(f)
		want := ins.Copy(first)
		spoil(second)
		if !reflect.DeepEqual(first, want) {
			t.Errorf("%s: two answers share memory", what)
		}
		if !reflect.DeepEqual(whole(f), whole(make())) {
			t.Errorf("%s: an answer has the function's memory", what)
		}
		if !reflect.DeepEqual(dead.Pass(f), want) {
			t.Errorf("%s: an answer is kept", what)
		}
		spoil(f)
		if !reflect.DeepEqual(first, want) {
			t.Errorf("%s: an answer has the function's memory", what)
		}
	}
}

// TestListsAreApart: no two lists of an answer share any memory.
func TestListsAreApart(t *testing.T) {
	for what, make := range kinds {
		f := make()
		// The same list, handed in again and again.
		shared := []int{1, 1, 2}
		for i, x := range f.Code {
			if len(x.Args) > 0 && !ins.Calls(x) {
				f.Code[i].Args = shared
			}
		}
		for i := range f.Code {
			g := dead.Pass(f)
			want := dead.Pass(f)
			fill(g.Code[i].Args, 88)
			for k := range g.Code {
				if k != i && !slices.Equal(g.Code[k].Args, want.Code[k].Args) || !slices.Equal(g.Regs, want.Regs) || !slices.Equal(g.Params, want.Params) {
					t.Fatalf("%s: the Args of %d share memory", what, i)
				}
			}
		}
	}
}

// TestAnswersHangOnNothingElse: asked again, and by several at once, Pass answers the same.
func TestAnswersHangOnNothingElse(t *testing.T) {
	f, refused := roomyFunc(), refusedFunc()
	want := dead.Pass(roomyFunc())
	if reflect.DeepEqual(want, roomyFunc()) || ins.Check(f) != api.OK || ins.Check(refused) == api.OK {
		t.Fatal("there is nothing to be taken away")
	}
	var all sync.WaitGroup
	for range 8 {
		all.Go(func() {
			for range 50 {
				if !reflect.DeepEqual(dead.Pass(f), want) || !reflect.DeepEqual(dead.Pass(refused), refusedFunc()) {
					t.Error("Pass answers otherwise than before")
				}
			}
		})
	}
	all.Wait()
}
