package live_test

import (
	"reflect"
	"slices"
	"sync"
	"testing"

	"reglet/api"
	"reglet/live"
)

// roomy is a list with things in the room behind it.
func roomy[T any](l []T, behind T) []T {
	l = append(slices.Clip(l), behind, behind)
	return l[:len(l)-2]
}

// roomyFunc has all that a function can have, with room behind each list.
func roomyFunc() api.Func {
	f := fn("print 0, if 0 1 4, call 2 1 0 3, virtual -1 3 2, print 2, return 0, catch 4, null 5, goto 0, nop, return 1", "0/4:6 a", "2/3:6")
	f.Regs, f.Params, f.Rows, f.Code = roomy(f.Regs, 9), roomy(f.Params, 9), roomy(f.Rows, api.Row{At: 9}), roomy(f.Code, api.Ins{Op: 9, Args: []int{9}})
	for i, x := range f.Code {
		f.Code[i].Args = roomy(x.Args, 9)
	}
	return f
}

// refusedFunc is that, but not well formed.
func refusedFunc() api.Func {
	f := roomyFunc()
	f.Code[8].To = 99
	return f
}

// whole is a function with the room behind its lists as part of them.
func whole(f api.Func) api.Func {
	all := api.Func{Regs: f.Regs[:cap(f.Regs)], Params: f.Params[:cap(f.Params)], Ret: f.Ret, Rows: f.Rows[:cap(f.Rows)]}
	for _, x := range f.Code[:cap(f.Code)] {
		x.Args = x.Args[:cap(x.Args)]
		all.Code = append(all.Code, x)
	}
	return all
}

// spoil writes over all that a function leads to, and the room behind.
func spoil(f api.Func) {
	f = whole(f)
	for _, l := range [][]int{f.Regs, f.Params} {
		clear(l)
	}
	for i := range f.Rows {
		f.Rows[i] = api.Row{From: 1, To: 2, At: 6}
	}
	for _, x := range f.Code {
		clear(x.Args)
	}
}

// answers are all that a table says of a function.
func answers(table *live.Table, f api.Func) []bool {
	var l []bool
	for _, i := range slices.Concat(counted(len(f.Code)), noneOf(len(f.Code))) {
		for _, r := range slices.Concat(counted(len(f.Regs)), noneOf(len(f.Regs))) {
			l = append(l, table.Before(i, r), table.After(i, r), table.Across(f, i, r))
		}
	}
	return l
}

// TestNothingHandedInIsChanged, nor the room behind it.
func TestNothingHandedInIsChanged(t *testing.T) {
	for _, make := range []func() api.Func{roomyFunc, refusedFunc} {
		f := make()
		answers(live.Of(f), f)
		answers(live.Of(roomyFunc()), f)
		if !reflect.DeepEqual(whole(f), whole(make())) {
			t.Errorf("%+v is %+v now", whole(make()), whole(f))
		}
	}
}

// TestNothingHandedInIsKept: what becomes of a function touches no table of it.
func TestNothingHandedInIsKept(t *testing.T) {
	f := roomyFunc()
	first, second := live.Of(f), live.Of(f)
	want := answers(live.Of(roomyFunc()), roomyFunc())
	if first == second {
		t.Error("two answers of Of are one")
	}
	answers(first, f)
	spoil(f)
	for i := range f.Code[:cap(f.Code)] {
		f.Code[:cap(f.Code)][i] = api.Ins{Op: 30}
	}
	for _, table := range []*live.Table{first, second} {
		if !slices.Equal(answers(table, roomyFunc()), want) {
			t.Error("a table hangs on what became of its function")
		}
	}
}

// TestAcrossKeepsNothing: what is asked of one function makes no difference to what is answered of another one.
func TestAcrossKeepsNothing(t *testing.T) {
	f, table := roomyFunc(), live.Of(roomyFunc())
	want := answers(table, f)
	other := fn("call 0, call 1, call 3, return 2, catch 5, print 1, return 0", "0/3:4")
	answers(table, other)
	answers(live.Of(other), f)
	answers(live.Of(other), other)
	if !slices.Equal(answers(table, f), want) {
		t.Error("a table answers otherwise than before")
	}
}

// TestAnswersHangOnNothingElse: asked again, and by several at once, each call answers the same.
func TestAnswersHangOnNothingElse(t *testing.T) {
	f := roomyFunc()
	table := live.Of(f)
	want := answers(table, f)
	var all sync.WaitGroup
	for range 8 {
		all.Go(func() {
			for range 20 {
				if !slices.Equal(answers(table, f), want) || !slices.Equal(answers(live.Of(f), f), want) || live.Of(refusedFunc()) != nil {
					t.Error("a call answers otherwise than before")
				}
			}
		})
	}
	all.Wait()
}
