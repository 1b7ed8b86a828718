package ins_test

import (
	"reflect"
	"slices"
	"sync"
	"testing"

	"reglet/api"
	"reglet/ins"
)

// roomy is a list with room behind it, and things in that.
func roomy[T any](l []T, behind T) []T {
	l = append(slices.Clip(l), behind, behind)
	return l[:len(l)-2]
}

// roomyIns is an instruction that reads a list, with room behind.
func roomyIns(op int) api.Ins {
	x := full(op)
	x.Args = roomy(x.Args, 99)
	return x
}

// roomyFunc has all that a function can have, with room behind each list.
func roomyFunc() api.Func {
	f := with(api.Ins{Op: 24, Dst: 1, Num: 7, Args: roomy([]int{4, 0}, 99)})
	f.Code[2] = api.Ins{Op: 33, Args: roomy([]int{-5, 77}, 99)}
	f.Regs, f.Params, f.Rows = roomy(f.Regs, 99), roomy(f.Params, 99), roomy(f.Rows, api.Row{From: 99})
	f.Code = roomy(f.Code, api.Ins{Op: 99, Args: []int{99}})
	return f
}

// whole is a function with the room behind its lists as part of them.
func whole(f api.Func) api.Func {
	f.Regs, f.Params, f.Rows, f.Code = room(f.Regs), room(f.Params), room(f.Rows), room(f.Code)
	f.Code = slices.Clone(f.Code)
	for i, x := range f.Code {
		f.Code[i].Args = room(x.Args)
	}
	return f
}

func room[T any](l []T) []T { return l[:cap(l)] }

// fill writes over a list and the room behind it.
func fill[T any](l []T, by T) {
	l = room(l)
	for i := range l {
		l[i] = by
	}
}

// spoil writes over all that a function leads to.
func spoil(f api.Func) {
	fill(f.Regs, 88)
	fill(f.Params, 88)
	fill(f.Rows, api.Row{From: 88})
	for _, x := range f.Code {
		fill(x.Args, 88)
	}
	fill(f.Code, api.Ins{Op: 88})
}

// TestNothingHandedInIsChanged, nor the room behind it.
func TestNothingHandedInIsChanged(t *testing.T) {
	for op := 0; op <= 34; op++ {
		for n := range 5 {
			x, l := roomyIns(op), roomy(counted(20, n), 99)
			ins.Uses(x)
			ins.Def(x)
			ins.Calls(x)
			ins.Throws(x)
			ins.Pure(x)
			ins.Leads(x)
			ins.Ends(x)
			ins.Replace(x, l)
			if y := roomyIns(op); !same(x, y) || !slices.Equal(room(x.Args)[:5], room(y.Args)[:5]) {
				t.Errorf("%+v is %+v now", y, x)
			}
			if !slices.Equal(room(l)[:n+2], room(roomy(counted(20, n), 99))[:n+2]) {
				t.Errorf("%v is %v now", counted(20, n), l)
			}
		}
	}
	f, kept := roomyFunc(), whole(roomyFunc())
	ins.Copy(f)
	if e := ins.Check(f); e != api.OK || !reflect.DeepEqual(whole(f), kept) {
		t.Errorf("%v: %+v is %+v now", e, kept, whole(f))
	}
	f.Code[3].Num = -1
	kept.Code[3].Num = -1
	if e := ins.Check(f); e != formError || !reflect.DeepEqual(whole(f), kept) {
		t.Errorf("%v: %+v is %+v now", e, kept, whole(f))
	}
}

// TestUsesAreApart: neither from the instruction nor from the list before does an answer have its memory.
func TestUsesAreApart(t *testing.T) {
	for op := 0; op <= 34; op++ {
		x := roomyIns(op)
		want := wantUses(x)
		first, second := ins.Uses(x), ins.Uses(x)
		fill(second, 88)
		if !slices.Equal(first, want) || !slices.Equal(ins.Uses(x), want) || !same(x, full(op)) {
			t.Errorf("%d: two answers share memory, or one keeps it", op)
		}
		fill(x.Args, 88)
		if !slices.Equal(first, want) {
			t.Errorf("%d: an answer has the instruction's memory", op)
		}
	}
}

// TestReplacedAreApart: the answer's Args are new memory, whether any are put in or not, and be it no call.
func TestReplacedAreApart(t *testing.T) {
	for op := 0; op <= 34; op++ {
		for n := range 5 {
			x, l := roomyIns(op), roomy(counted(20, n), 99)
			want := wantReplace(x, l)
			got, other := ins.Replace(x, l), ins.Replace(x, l)
			fill(other.Args, 88)
			if !same(got, want) || !same(x, full(op)) || !slices.Equal(l, counted(20, n)) {
				t.Errorf("%d by %d: what becomes of an answer touches another one", op, n)
			}
			fill(x.Args, 88)
			fill(l, 88)
			if !same(got, want) {
				t.Errorf("%d by %d: an answer has an argument's memory", op, n)
			}
		}
	}
}

func TestCopy(t *testing.T) {
	several := roomyFunc()
	several.Ret = 2
	for _, f := range []api.Func{
		{}, {Ret: 3}, {Ret: -9}, several,
		{Regs: []int{}, Params: []int{}, Code: []api.Ins{}, Rows: []api.Row{}},
		{Regs: []int{1, 2, 9}}, {Params: []int{-1, 4, 4}}, {Code: []api.Ins{full(5)}}, {Rows: []api.Row{{From: 1, To: 2, At: 3, Class: "a"}, {At: -1}}},
		{Code: []api.Ins{full(23), full(99), {}, {Op: 26, Args: []int{}}, {Op: 25, Args: counted(1, 22)}}},
		{Regs: counted(1, 20001), Params: counted(1, 22), Code: slices.Repeat([]api.Ins{full(1)}, 20001), Rows: make([]api.Row, 100)},
	} {
		got := ins.Copy(f)
		if !sameFunc(got, f) {
			t.Errorf("Copy(%s) = %s", told(f), told(got))
		}
		if ins.Check(got) != ins.Check(f) {
			t.Errorf("Check(Copy(%s)) = %v", told(f), ins.Check(got))
		}
	}
}

// TestCopiesAreApart: what becomes of the function touches no copy, nor the other way round.
func TestCopiesAreApart(t *testing.T) {
	f := roomyFunc()
	first, second := ins.Copy(f), ins.Copy(f)
	spoil(second)
	if !sameFunc(first, roomyFunc()) || !reflect.DeepEqual(whole(f), whole(roomyFunc())) {
		t.Error("what becomes of a copy touches the function, or another copy")
	}
	spoil(f)
	if !sameFunc(first, roomyFunc()) || ins.Check(first) != api.OK {
		t.Error("a copy has the function's memory")
	}
	// Nor do two lists of one copy share any.
	spoiled := ins.Copy(roomyFunc())
	fill(spoiled.Regs, 88)
	fill(spoiled.Code[2].Args, 88)
	want := roomyFunc()
	if !slices.Equal(spoiled.Params, want.Params) || !slices.Equal(spoiled.Code[3].Args, want.Code[3].Args) {
		t.Error("two lists of a copy share memory")
	}
	shared := []int{4, 0}
	f = api.Func{Regs: shared, Params: shared, Code: []api.Ins{{Op: 24, Args: shared}, {Op: 24, Args: shared}}}
	split := ins.Copy(f)
	fill(split.Code[0].Args, 88)
	fill(split.Params, 88)
	if !slices.Equal(split.Regs, shared) || !slices.Equal(split.Code[1].Args, shared) {
		t.Error("a copy shares what the function shares")
	}
}

// TestAnswersHangOnNothingElse: asked again, and by several at once, each call answers the same.
func TestAnswersHangOnNothingElse(t *testing.T) {
	shared := roomyFunc()
	ask := func() []any {
		answers := []any{ins.Check(shared), ins.Check(api.Func{}), ins.Copy(shared)}
		for op := 0; op <= 34; op++ {
			x := full(op)
			answers = append(answers, ins.Uses(x), ins.Def(x), ins.Calls(x), ins.Throws(x), ins.Pure(x), ins.Leads(x), ins.Ends(x), ins.Replace(x, []int{1, 2, 3}), ins.Check(with(fitting(op))))
		}
		return answers
	}
	first := ask()
	var all sync.WaitGroup
	for range 8 {
		all.Go(func() {
			for range 20 {
				if !reflect.DeepEqual(ask(), first) {
					t.Error("a call answers otherwise than before")
				}
			}
		})
	}
	all.Wait()
}
