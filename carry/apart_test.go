package carry_test

import (
	"reflect"
	"slices"
	"sync"
	"testing"

	"reglet/api"
	"reglet/carry"
	"reglet/ins"
)

// roomy is a list with things in the room behind it.
func roomy[T any](l []T, behind T) []T {
	l = append(slices.Clip(l), behind, behind)
	return l[:len(l)-2]
}

func room[T any](l []T) []T { return l[:cap(l)] }

// roomyFunc has all that a function can have, copies in a block and behind it too, with room behind each list.
func roomyFunc() api.Func {
	f := fn("move 1 0, move 2 1, call 3 2 1 0, ifint 1 2 5, return 2, callvirtual -1 5 2, putstatic 1, return 1, catch 6, move 7 6, nullcheck 7, goto 1, nop, return 1", "1/6:8 a", "5/6:8")
	f.Regs, f.Params, f.Rows, f.Code = roomy(f.Regs, 9), roomy(f.Params, 9), roomy(f.Rows, api.Row{At: 9}), roomy(f.Code, api.Ins{Op: 9, Args: []int{9}})
	f.Code[6].Args = []int{1, 1}
	for i, x := range f.Code {
		f.Code[i].Args = roomy(x.Args, 9)
	}
	return f
}

// plainFunc has no copies.
func plainFunc() api.Func {
	f := roomyFunc()
	for i, x := range f.Code {
		if x.Op == 4 {
			f.Code[i].Op = 33
		}
	}
	return f
}

// refusedFunc isn't well formed.
func refusedFunc() api.Func {
	f := roomyFunc()
	f.Code[11].To = 99
	return f
}

var kinds = map[string]func() api.Func{"carried": roomyFunc, "plain": plainFunc, "refused": refusedFunc, "empty": func() api.Func { return api.Func{} }}

// whole is a function with the room behind its lists as part of them.
func whole(f api.Func) api.Func {
	f.Regs, f.Params, f.Rows, f.Code = room(f.Regs), room(f.Params), room(f.Rows), slices.Clone(room(f.Code))
	for i, x := range f.Code {
		f.Code[i].Args = room(x.Args)
	}
	return f
}

// fill writes over a list and the room behind it.
func fill[T any](l []T, by T) {
	l = room(l)
	for i := range l {
		l[i] = by
	}
}

// spoil writes over all that a function leads to.
func spoil(f api.Func) {
	fill(f.Regs, 88)
	fill(f.Params, 88)
	fill(f.Rows, api.Row{From: 88})
	for _, x := range f.Code {
		fill(x.Args, 88)
	}
	fill(f.Code, api.Ins{Op: 88})
}

// TestNothingHandedInIsChanged, nor the room behind it.
func TestNothingHandedInIsChanged(t *testing.T) {
	for what, make := range kinds {
		f := make()
		carry.Pass(f)
		if !reflect.DeepEqual(whole(f), whole(make())) {
			t.Errorf("%s: %+v is %+v now", what, whole(make()), whole(f))
		}
	}
}

// TestAnswersAreApart: what becomes of a function touches no answer, and what becomes of an answer touches neither the function nor another answer.
func TestAnswersAreApart(t *testing.T) {
	for what, make := range kinds {
		f := make()
		first, second := carry.Pass(f), carry.Pass(f)
		want := ins.Copy(first)
		spoil(second)
		if !reflect.DeepEqual(first, want) {
			t.Errorf("%s: two answers share memory", what)
		}
		if !reflect.DeepEqual(whole(f), whole(make())) {
			t.Errorf("%s: an answer has the function's memory", what)
		}
		if !reflect.DeepEqual(carry.Pass(f), want) {
			t.Errorf("%s: an answer is kept", what)
		}
		spoil(f)
		if !reflect.DeepEqual(first, want) {
			t.Errorf("%s: an answer has the function's memory", what)
		}
	}
}

// TestListsAreApart: no two lists of an answer share any memory.
func TestListsAreApart(t *testing.T) {
	for what, make := range kinds {
		f := make()
		// The same list, handed in again and again.
		shared := []int{1, 1, 2}
		for i, x := range f.Code {
			if len(x.Args) > 0 && !ins.Calls(x) {
				f.Code[i].Args = shared
			}
		}
		for i := range f.Code {
			g := carry.Pass(f)
			want := carry.Pass(f)
			fill(g.Code[i].Args, 88)
			for k := range g.Code {
				if k != i && !slices.Equal(g.Code[k].Args, want.Code[k].Args) || !slices.Equal(g.Regs, want.Regs) || !slices.Equal(g.Params, want.Params) {
					t.Fatalf("%s: the Args of %d share memory", what, i)
				}
			}
		}
	}
}

// TestAnswersHangOnNothingElse: asked again, and by several at once, Pass answers the same.
func TestAnswersHangOnNothingElse(t *testing.T) {
	f, refused := roomyFunc(), refusedFunc()
	want := carry.Pass(roomyFunc())
	if reflect.DeepEqual(want, carry.Pass(plainFunc())) || ins.Check(f) != api.OK || ins.Check(refused) == api.OK {
		t.Fatal("there is nothing to be carried")
	}
	var all sync.WaitGroup
	for range 8 {
		all.Go(func() {
			for range 50 {
				if !reflect.DeepEqual(carry.Pass(f), want) || !reflect.DeepEqual(carry.Pass(refused), refusedFunc()) {
					t.Error("Pass answers otherwise than before")
				}
			}
		})
	}
	all.Wait()
}
