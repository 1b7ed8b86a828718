package live_test

import (
	"slices"
	"testing"

	"reglet/api"
	"reglet/ins"
	"reglet/live"
)

func TestExampleOfTheChapter(t *testing.T) {
	f := api.Func{Regs: []int{1, 1}, Code: []api.Ins{{Op: 1, Dst: 0}, {Op: 1, Dst: 1}, {Op: 28, A: 0, B: 1, To: 0}, {Op: 30, A: -1}}}
	table := live.Of(f)
	if !table.After(0, 0) || table.After(0, 1) {
		t.Errorf("behind place 0: register 0 %v, register 1 %v", table.After(0, 0), table.After(0, 1))
	}
}

// TestCases: what is live ahead of > behind > across each place.
func TestCases(t *testing.T) {
	for _, c := range []struct {
		what string
		f    api.Func
		want string
	}{
		{"the chapter's example", fn("const 0, const 1, if 0 1 0, return -1"), ">0>, 0>01>0, 01>>, >>"},
		{"nothing", fn("return -1"), ">>"},
		{"what is given back", fn("return 2"), "2>>"},

		{"read and written by the same instruction", fn("add 0 0 1, return 0"), "01>0>, 0>>"},
		{"copied to itself", fn("move 0 0, return 0"), "0>0>, 0>>"},
		{"copied to itself for nobody", fn("move 0 0, return -1"), "0>>, >>"},
		{"written by what nobody reads", fn("const 0, return 1"), "1>1>1, 1>>"},
		{"written twice", fn("const 0, const 0, return 0"), ">>, >0>, 0>>"},
		{"written and read for nobody", fn("const 0, move 1 0, return -1"), ">0>, 0>>, >>"},
		{"read behind what writes others", fn("const 1, new 3, return 0"), "0>0>0, 0>0>0, 0>>"},

		{"the same register read twice", fn("add 0 1 1, return 0"), "1>0>, 0>>"},
		{"the same argument three times", fn("native 0 3 0 3 3, return 0"), "03>0>, 0>>"},
		{"a call that gives nothing back", fn("call -1 0 1, return 2"), "012>2>2, 2>>"},
		{"a call by an object that writes its argument", fn("virtual 3 3 0, null 3, return -1"), "03>3>, 3>>, >>"},
		{"a call by a name", fn("iface 0 4 1, return 0"), "14>0>, 0>>"},
		{"A, B and C", fn("null 3, bound 3 0, store 3 0 1, load 2 3 0, return 2"), "013>013>013, 013>013>013, 013>03>03, 03>2>, 2>>"},
		{"nothing to compare with", fn("ifref 3 -1 1, return -1"), "3>>, >>"},
		{"compared with another one", fn("ifref 3 4 1, return -1"), "34>>, >>"},

		{"a circle", fn("print 0, goto 0"), "0>0>0, 0>0>0"},
		{"a circle that writes ahead", fn("const 0, print 0, goto 0"), ">0>, 0>>, >>"},
		{"a circle that writes behind", fn("print 0, const 0, goto 0"), "0>>, >0>, 0>0>0"},
		{"a circle in a circle", fn("const 0, print 1, if 0 0 1, goto 0"), "1>01>1, 01>01>01, 01>01>01, 1>1>1"},
		{"a way to the place itself", fn("const 0, if 0 1 1, return 2"), "12>012>12, 012>012>012, 2>>"},
		{"no other way than to itself", fn("print 0, goto 1, return 1"), "0>>, >>, 1>>"},
		{"a way to the next place", fn("if 0 1 1, return 2"), "012>2>2, 2>>"},
		{"ways that meet", fn("if 0 0 3, const 1, goto 4, const 2, add 1 1 2, return 1"), "012>12>12, 2>12>2, 12>12>12, 1>12>1, 12>1>, 1>>"},
		{"written on one of two ways", fn("if 0 0 2, const 1, return 1"), "01>1>1, >1>, 1>>"},
		{"written on both ways", fn("if 0 0 3, const 1, goto 4, const 1, return 1"), "0>>, >1>, 1>1>1, >1>, 1>>"},

		{"what can't be reached", fn("return 0, print 1, const 2, return 2"), "0>>, 1>>, >2>, 2>>"},
		{"what can't be reached, and goes on to what can", fn("goto 2, print 0, return 1"), "1>1>1, 01>1>1, 1>>"},
		{"what can't be reached, and throws", fn("stay, call 0, return 0, catch 3, return 0", "1/2:3"), ">>, 0>0>0, 0>>, 0>0>0, 0>>"},
		{"caught, where nobody throws", fn("const 1, stay, catch 3, return 0", "0/2:2"), ">>, >>, 0>0>0, 0>>"},
		{"caught by no row", fn("call -1, stay, catch 3, return 0"), ">>, >>, 0>0>0, 0>>"},

		{"written where it isn't thrown, read where it is caught", fn("call 0, return 1, catch 3, return 0", "0/1:2"), "01>1>01, 1>>, 0>0>0, 0>>"},
		{"written, and read behind it alone", fn("call 0, return 0, catch 3, return 1", "0/1:2"), "1>0>1, 0>>, 1>1>1, 1>>"},
		{"written, and read both where it goes on and where it is caught", fn("call 0, return 0, catch 3, return 0", "0/1:2"), "0>0>0, 0>>, 0>0>0, 0>>"},
		{"written, and read nowhere", fn("call 0, return 1, catch 3, return 1", "0/1:2"), "1>1>1, 1>>, 1>1>1, 1>>"},
		{"written, and not caught", fn("call 0, return 0"), ">0>, 0>>"},
		{"read, written and thrown by one instruction", fn("call 0 0, return 0, catch 3, return 1", "0/1:2"), "01>0>1, 0>>, 1>1>1, 1>>"},
		{"a new thing, and what lay there", fn("new 3, null 3, return -1, catch 4, null 3, return -1", "0/1:3"), "3>3>3, 3>>, >>, 3>3>3, 3>>, >>"},
		{"a new thing where what lay there is gone", fn("array 3 0, null 3, return -1, catch 3, null 3, return -1", "0/1:3"), "0>3>, 3>>, >>, >3>, 3>>, >>"},
		{"a check", fn("zero 0, stay, catch 3, return 0", "0/1:2"), "0>>0, >>, 0>0>0, 0>>"},
		{"what is thrown, and what lies beside it", fn("throw 3, catch 4, return 0", "0/1:1"), "03>>0, 0>0>0, 0>>"},
		{"what doesn't throw", fn("const 0, return 0, catch 3, return 0", "0/2:2"), ">0>, 0>>, 0>0>0, 0>>"},
		{"behind a row", fn("call -1, call 0, stay, catch 3, return 0", "0/1:3"), "0>>0, >>, >>, 0>0>0, 0>>"},
		{"ahead of a row", fn("const 0, call 0, call -1, stay, catch 3, return 0", "2/3:4"), ">>, >0>, 0>>0, >>, 0>0>0, 0>>"},

		{"rows that lie in one another", fn("call -1, call -1, call -1, stay, catch 3, return 0, catch 3, return 1", "1/2:4 a", "0/3:6 b"), "01>01>01, 01>1>01, 1>>1, >>, 0>0>0, 0>>, 1>1>1, 1>>"},
		{"a row of all ahead of another one", fn("call -1, stay, catch 3, return 0, catch 3, return 1", "0/1:2", "0/1:4 a"), "0>>0, >>, 0>0>0, 0>>, 1>1>1, 1>>"},
		{"a row of some ahead of another one", fn("call -1, stay, catch 3, return 0, catch 3, return 1", "0/1:2 b", "0/1:4 a"), "01>>01, >>, 0>0>0, 0>>, 1>1>1, 1>>"},
		{"a row of all behind another one", fn("call -1, stay, catch 3, return 0, catch 3, return 1", "0/1:2 b", "0/1:4"), "01>>01, >>, 0>0>0, 0>>, 1>1>1, 1>>"},
		{"a row of all about another place", fn("call -1, call -1, stay, catch 3, return 0, catch 3, return 1", "0/1:3", "0/2:5 a"), "01>1>01, 1>>1, >>, 0>0>0, 0>>, 1>1>1, 1>>"},
		{"a row about its own At", fn("throw 3, catch 4, throw 3", "0/3:1"), "3>>3, 3>3>3, 3>>3"},
		{"a row about its own At, where the thing comes to lie", fn("throw 3, catch 3, throw 3", "0/3:1"), "3>>, >3>, 3>>"},
		{"a row about a place and its own At, in a circle", fn("call 0, goto 0, catch 3, goto 1", "0/4:2"), ">>, >>, >>, >>"},
		{"two that throw in one row", fn("call 0, call 1, stay, catch 3, add 0 0 1, return 0", "0/2:3"), "01>01>01, 01>>01, >>, 01>01>01, 01>0>, 0>>"},
		{"caught, thrown on, and caught", fn("call -1, stay, catch 3, call -1, stay, catch 4, null 3, return 0", "0/1:2", "3/4:5"), "0>>0, >>, 0>03>0, 03>>03, >>, 03>03>03, 03>0>0, 0>>"},
		{"caught again and again", fn("call 0, return 1, catch 3, goto 0", "0/1:2"), "1>1>1, 1>>, 1>1>1, 1>1>1"},
	} {
		if e := ins.Check(c.f); e != api.OK {
			t.Errorf("%s: %s: %v", c.what, told(c.f), e)
			continue
		}
		if got := sets(c.f); got != c.want {
			t.Errorf("%s: %s:\n     %s\nwant %s", c.what, told(c.f), got, c.want)
		}
		checkReference(t, c.f)
		checkOthersMakeNoDifference(t, c.f)
	}
}

// TestWhatIsntNeeded: numbers in fields that an Op doesn't need are no registers, and no places.
func TestWhatIsntNeeded(t *testing.T) {
	for _, x := range []api.Ins{{Op: 1, Dst: 1}, {Op: 2}, {Op: 3}, {Op: 20}, {Op: 27}, {Op: 32}, {Op: 33, Dst: 1}} {
		x.A, x.B, x.C, x.To, x.Args = 2, 2, 2, 2, []int{2, 2}
		f := api.Func{Regs: []int{3, 1, 1}, Code: []api.Ins{{Op: 27, A: 2, To: 2}, x, {Op: 30, A: -1, B: 2, Args: []int{2}}}}
		if e := ins.Check(f); e != api.OK {
			t.Fatalf("%d: %v", x.Op, e)
		}
		if got := sets(f); got != ">>, >>, >>" {
			t.Errorf("%d: %s", x.Op, got)
		}
	}
	f := fn("print 0, null 3, zero 0, move 0 1, throw 3")
	for i := range f.Code {
		x := &f.Code[i]
		x.B, x.C, x.To, x.Args = 5, 5, 0, []int{5}
		if x.Op != 4 {
			x.Dst = 3
		}
	}
	if got, want := sets(f), "013>013>013, 013>013>013, 013>13>13, 13>3>3, 3>>"; got != want {
		t.Errorf("%s, want %s", got, want)
	}
}

// TestManyArguments: each of 21 is read.
func TestManyArguments(t *testing.T) {
	for _, op := range []int{23, 24, 25, 26} {
		f := api.Func{Regs: slices.Concat([]int{3}, slices.Repeat([]int{1, 2, 3}, 10)), Code: []api.Ins{{Op: op, Dst: 9}, {Op: 19, A: 9}, {Op: 30, A: -1}}}
		for i := range 21 {
			f.Code[0].Args = append(f.Code[0].Args, (i*i*2)%31)
		}
		if e := ins.Check(f); e != api.OK {
			t.Fatal(e)
		}
		table := live.Of(f)
		for r := range f.Regs {
			if got, want := table.Before(0, r), slices.Contains(f.Code[0].Args, r); got != want {
				t.Errorf("register %d is live ahead of %d: %v", r, op, got)
			}
		}
		checkReference(t, f)
	}
}

// TestOfOthers: what isn't well formed has no table.
func TestOfOthers(t *testing.T) {
	with := func(change func(f *api.Func)) api.Func {
		f := fn("print 0, if 0 1 0, call 0, return 1, catch 3, return 0", "0/3:4")
		change(&f)
		return f
	}
	for what, f := range map[string]api.Func{
		"no instructions":   {},
		"nothing but a row": {Rows: []api.Row{{From: 0, To: 1, At: 0}}},
		"doesn't end":       fn("print 0"),
		"to no place":       fn("if 0 1 2, return -1"),
		"to below 0":        fn("goto -1"),
		"no such register":  with(func(f *api.Func) { f.Code[0].A = 6 }),
		"a register below":  with(func(f *api.Func) { f.Code[0].A = -1 }),
		"no such argument":  with(func(f *api.Func) { f.Code[2].Args = []int{0, 77} }),
		"22 arguments":      with(func(f *api.Func) { f.Code[2].Args = make([]int, 22) }),
		"another kind":      with(func(f *api.Func) { f.Regs[0] = 3 }),
		"no kind":           with(func(f *api.Func) { f.Regs[5] = 4 }),
		"no Op":             with(func(f *api.Func) { f.Code[0].Op = 34 }),
		"no such parameter": with(func(f *api.Func) { f.Params[0] = 6 }),
		"a parameter twice": with(func(f *api.Func) { f.Params[0] = 1 }),
		"gives back a long": with(func(f *api.Func) { f.Ret = 2 }),
		"nobody catches":    with(func(f *api.Func) { f.Rows[0].At = 5 }),
		"about nothing":     with(func(f *api.Func) { f.Rows[0].To = 0 }),
		"about too much":    with(func(f *api.Func) { f.Rows[0].To = 7 }),
		"to where it is caught": with(func(f *api.Func) {
			f.Code[1].To = 4
		}),
	} {
		if e := ins.Check(f); e == api.OK {
			t.Errorf("%s: %s is well formed", what, told(f))
		}
		if table := live.Of(f); table != nil {
			t.Errorf("%s: %s has a table", what, told(f))
		}
		checkReference(t, f)
	}
	if f := with(func(*api.Func) {}); live.Of(f) == nil {
		t.Errorf("%s has none", told(f))
	}
}

// TestNoTable: of a nil table, and of one that Of didn't make, nothing is live.
func TestNoTable(t *testing.T) {
	f := fn("print 0, if 0 1 0, call 0, return 1, catch 3, return 0", "0/3:4")
	for _, table := range []*live.Table{nil, {}, new(live.Table)} {
		for _, f := range []api.Func{f, {}, fn("goto -7")} {
			checkNone(t, table, f, slices.Concat(counted(7), noneOf(6)), slices.Concat(counted(7), noneOf(6)))
		}
	}
}

// TestAcrossOfAnotherFunction: what it answers isn't said, but it answers, and nothing is live where there is no place.
func TestAcrossOfAnotherFunction(t *testing.T) {
	tables := []api.Func{fn("print 0, return 1"), fn("call 0, call 1, call 2, return -1, catch 3, return 0", "0/3:4"), {Code: []api.Ins{{Op: 30, A: -1}}}}
	others := []api.Func{
		{}, fn("nop"), fn("goto 99"), fn("call 5, call -9, return 0", "0/2:77", "-5/9:-1", "1/2:1"),
		fn("call -1, call -1, call -1, call -1, call -1, call -1, call -1, call -1", "0/8:9", "0/8:1 a", "0/8:-9223372036854775808"),
	}
	for _, f := range tables {
		table := live.Of(f)
		for _, g := range others {
			for _, i := range slices.Concat(counted(9), noneOf(8)) {
				for _, r := range slices.Concat(counted(7), noneOf(6)) {
					isPlace := i >= 0 && i < len(g.Code)
					if table.Across(g, i, r) && !isPlace {
						t.Errorf("%s: place %d, register %d", told(g), i, r)
					}
				}
			}
		}
	}
}
