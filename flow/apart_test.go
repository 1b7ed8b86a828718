package flow_test

import (
	"reflect"
	"slices"
	"sync"
	"testing"

	"reglet/api"
	"reglet/flow"
	"reglet/ins"
)

// roomy is a list with room behind it, and things in that.
func roomy[T any](l []T, behind T) []T {
	l = append(slices.Clip(l), behind, behind)
	return l[:len(l)-2]
}

// roomyFunc has all that a function can have, something to trim too, with room behind each list.
func roomyFunc() api.Func {
	f := fn("nop, call -1, if 0 1 4, call -1, nop, return -1, catch 2, print 0, goto 0, return -1", "0/4:6 a", "1/2:6 b", "0/6:6", "1/4:6 c")
	f.Code[1].Args = roomy([]int{0, 1}, 99)
	f.Code[3].Args = roomy([]int{2, 0, 3}, 99)
	f.Code[5].Args = roomy([]int{-5, 77}, 99)
	f.Code[9].To = 5
	f.Regs, f.Params, f.Rows = roomy(f.Regs, 99), roomy(f.Params, 99), roomy(f.Rows, api.Row{From: 1, To: 2, At: 99})
	f.Code = roomy(f.Code, api.Ins{Op: 30, Args: []int{99}})
	return f
}

// refusedFunc is that, but not well formed.
func refusedFunc() api.Func {
	f := roomyFunc()
	f.Rows[1].To = 99
	return f
}

// whole is a function with the room behind its lists as part of them.
func whole(f api.Func) api.Func {
	f.Regs, f.Params, f.Rows, f.Code = room(f.Regs), room(f.Params), room(f.Rows), room(f.Code)
	f.Code = slices.Clone(f.Code)
	for i, x := range f.Code {
		f.Code[i].Args = room(x.Args)
	}
	return f
}

func room[T any](l []T) []T { return l[:cap(l)] }

// fill writes over a list and the room behind it.
func fill[T any](l []T, by T) {
	l = room(l)
	for i := range l {
		l[i] = by
	}
}

// spoil writes over all that a function leads to.
func spoil(f api.Func) {
	fill(f.Regs, 88)
	fill(f.Params, 88)
	fill(f.Rows, api.Row{From: 88})
	for _, x := range f.Code {
		fill(x.Args, 88)
	}
	fill(f.Code, api.Ins{Op: 88})
}

// lists are the lists that a function has.
func lists(f *api.Func) []*[]int {
	l := []*[]int{&f.Regs, &f.Params}
	for i := range f.Code {
		l = append(l, &f.Code[i].Args)
	}
	return l
}

// TestNothingHandedInIsChanged, nor the room behind it.
func TestNothingHandedInIsChanged(t *testing.T) {
	for _, make := range []func() api.Func{roomyFunc, refusedFunc, func() api.Func { return given(roomyFunc(), 0) }} {
		f, kept := make(), whole(make())
		for _, i := range slices.Concat(noPlaces(f), counted(len(f.Code))) {
			flow.Next(f, i)
			flow.Caught(f, i)
		}
		flow.Reach(f)
		flow.Heads(f)
		flow.Set(f)
		flow.Trim(f)
		if !reflect.DeepEqual(whole(f), kept) {
			t.Errorf("%+v is %+v now", kept, whole(f))
		}
	}
}

// TestAnswersAreApart: what becomes of an answer touches no other one, and nothing that was handed in.
func TestAnswersAreApart(t *testing.T) {
	f := roomyFunc()
	for i := range f.Code {
		for name, ask := range map[string]func() []int{
			"Next":   func() []int { return flow.Next(f, i) },
			"Caught": func() []int { return flow.Caught(f, i) },
			"Heads":  func() []int { return flow.Heads(f) },
		} {
			first, want := ask(), slices.Clone(ask())
			fill(ask(), 88)
			if !slices.Equal(first, want) || !slices.Equal(ask(), want) {
				t.Errorf("two answers of %s share memory, or one is kept", name)
			}
		}
	}
	first, want := flow.Reach(f), slices.Clone(flow.Reach(f))
	fill(flow.Reach(f), false)
	if !slices.Equal(first, want) || !slices.Equal(flow.Reach(f), want) {
		t.Error("two answers of Reach share memory, or one is kept")
	}
	if !reflect.DeepEqual(whole(f), whole(roomyFunc())) {
		t.Error("an answer has the function's memory")
	}
}

// TestTrimmedAreApart: from the function, from each other, and list from list; of one that is answered as it is too.
func TestTrimmedAreApart(t *testing.T) {
	trimmed := func() api.Func { return ins.Copy(flow.Trim(roomyFunc())) }
	for _, make := range []func() api.Func{roomyFunc, refusedFunc, trimmed} {
		f, want := make(), ins.Copy(flow.Trim(make()))
		first, second := flow.Trim(f), flow.Trim(f)
		spoil(second)
		if !sameFunc(first, want) || !reflect.DeepEqual(whole(f), whole(make())) {
			t.Errorf("what becomes of a trimmed function touches the function, or another one: %+v", first)
		}
		spoil(f)
		if !sameFunc(first, want) {
			t.Errorf("a trimmed function has the function's memory: %+v", first)
		}
		for i := range lists(&first) {
			g, kept := flow.Trim(make()), ins.Copy(want)
			fill(*lists(&g)[i], 88)
			fill(*lists(&kept)[i], 88)
			if !sameFunc(g, kept) {
				t.Errorf("list %d of a trimmed function has another one's memory: %+v", i, g)
			}
		}
	}
}

// TestTrimmedShareNothing, though the function does.
func TestTrimmedShareNothing(t *testing.T) {
	shared := []int{0, 1}
	x := api.Ins{Op: 26, Dst: -1, Args: shared}
	for _, f := range []api.Func{
		{Regs: []int{1, 1}, Params: shared, Code: []api.Ins{x, x, {Op: 30, A: -1, Args: shared}}},
		{Regs: shared, Params: shared, Code: []api.Ins{x, x}},
	} {
		for i := range lists(&f) {
			g, want := flow.Trim(f), ins.Copy(f)
			fill(*lists(&g)[i], 88)
			fill(*lists(&want)[i], 88)
			if !sameFunc(g, want) || !slices.Equal(shared, []int{0, 1}) {
				t.Errorf("list %d of a trimmed function is shared: %+v", i, g)
			}
		}
	}
}

// TestAnswersHangOnNothingElse: asked again, and by several at once, each call answers the same.
func TestAnswersHangOnNothingElse(t *testing.T) {
	shared, refused := roomyFunc(), refusedFunc()
	ask := func() []any {
		var answers []any
		for _, f := range []api.Func{shared, refused, {}} {
			answers = append(answers, flow.Reach(f), flow.Heads(f), flow.Set(f), flow.Trim(f))
			for i := -1; i <= len(f.Code); i++ {
				answers = append(answers, flow.Next(f, i), flow.Caught(f, i))
			}
		}
		return answers
	}
	first := ask()
	var all sync.WaitGroup
	for range 8 {
		all.Go(func() {
			for range 50 {
				if !reflect.DeepEqual(ask(), first) {
					t.Error("a call answers otherwise than before")
				}
			}
		})
	}
	all.Wait()
}
