package flow_test

import (
	"slices"
	"testing"

	"reglet/api"
	"reglet/flow"
	"reglet/ins"
)

func TestTrim(t *testing.T) {
	for _, c := range []struct {
		what    string
		f, want api.Func
	}{
		{"nothing to trim", fn("const 0, print 0, return -1"), fn("const 0, print 0, return -1")},
		{"at the beginning", fn("nop, const 0, return -1"), fn("const 0, return -1")},
		{"in the middle", fn("const 0, nop, print 0, return -1"), fn("const 0, print 0, return -1")},
		{"in a row", fn("nop, nop, const 0, nop, nop, nop, print 0, nop, return -1"), fn("const 0, print 0, return -1")},
		{"just ahead of the end", fn("nop, nop, nop, return -1"), fn("return -1")},

		{"where a way leads", fn("if 0 0 2, print 0, nop, print 1, return -1"), fn("if 0 0 2, print 0, print 1, return -1")},
		{"where a way leads, several of them", fn("if 0 0 2, print 0, nop, nop, nop, print 1, return -1"), fn("if 0 0 2, print 0, print 1, return -1")},
		{"where a way back leads", fn("print 0, nop, print 1, if 0 0 1, return -1"), fn("print 0, print 1, if 0 0 1, return -1")},
		{"where a way back to the beginning leads", fn("nop, nop, print 1, goto 0"), fn("print 1, goto 0")},
		{"one over which a way leads", fn("if 0 0 3, print 0, nop, print 1, return -1"), fn("if 0 0 2, print 0, print 1, return -1")},
		{"a way to the next place", fn("if 0 0 1, nop, return -1"), fn("if 0 0 1, return -1")},
		{"a way to itself, over others", fn("nop, goto 0"), fn("goto 0")},
		{"ahead of what leads to itself", fn("nop, goto 1"), fn("goto 0")},
		{"of references", fn("nop, ifref 2 3 3, print 0, nop, return -1"), fn("ifref 2 3 2, print 0, return -1")},

		{"what can't be reached, at the end", fn("return -1, print 0, return -1"), fn("return -1")},
		{"what can't be reached, in the middle", fn("goto 3, print 0, return -1, print 1, return -1"), fn("goto 1, print 1, return -1")},
		{"what can't be reached, and doesn't end", fn("goto 2, print 0, print 1, return -1"), fn("goto 1, print 1, return -1")},
		{"what can't be reached, and leads", fn("goto 4, print 0, goto 4, goto 1, return -1"), fn("goto 1, return -1")},
		{"both", fn("nop, goto 4, nop, print 0, nop, nop, return -1, nop, goto 3"), fn("goto 1, return -1")},

		{"at a row's From", fn("nop, call -1, return -1, catch 2, return -1", "0/2:3 a"), fn("call -1, return -1, catch 2, return -1", "0/1:2 a")},
		{"several at a row's From", fn("print 0, nop, nop, call -1, return -1, catch 2, return -1", "1/4:5 a"), fn("print 0, call -1, return -1, catch 2, return -1", "1/2:3 a")},
		{"just ahead of a row's From", fn("nop, call -1, return -1, catch 2, return -1", "1/2:3 a"), fn("call -1, return -1, catch 2, return -1", "0/1:2 a")},
		{"at a row's To", fn("call -1, nop, print 0, return -1, catch 2, return -1", "0/1:4 a"), fn("call -1, print 0, return -1, catch 2, return -1", "0/1:3 a")},
		{"just ahead of a row's To", fn("call -1, nop, print 0, return -1, catch 2, return -1", "0/2:4 a"), fn("call -1, print 0, return -1, catch 2, return -1", "0/1:3 a")},
		{"in the middle of a row", fn("call -1, nop, print 0, return -1, catch 2, return -1", "0/3:4 a"), fn("call -1, print 0, return -1, catch 2, return -1", "0/2:3 a")},
		{"a row to the end", fn("nop, call -1, return -1, catch 2, nop, return -1, print 0, return -1", "0/8:3 a"), fn("call -1, return -1, catch 2, return -1", "0/4:2 a")},
		{"behind a row's At", fn("call -1, return -1, catch 2, nop, return -1", "0/1:2 a"), fn("call -1, return -1, catch 2, return -1", "0/1:2 a")},
		{"ahead of the one ahead of a row's At", fn("call -1, nop, return -1, catch 2, return -1", "0/1:3 a"), fn("call -1, return -1, catch 2, return -1", "0/1:2 a")},
		{"what can't be reached ahead of a row's At", fn("call -1, return -1, nop, return -1, catch 2, return -1", "0/1:4 a"), fn("call -1, return -1, catch 2, return -1", "0/1:2 a")},
		{"a catch ahead of a row's At that can't be reached", fn("call -1, return -1, catch 3, throw 3, catch 2, return -1", "0/1:4 a"), fn("call -1, return -1, catch 2, return -1", "0/1:2 a")},

		{"a row about nothing but such", fn("nop, nop, call -1, return -1, catch 2, return -1", "0/2:4 a", "2/3:4 b"), fn("call -1, return -1, catch 2, return -1", "0/1:2 b")},
		{"a row about what can't be reached", fn("call -1, return -1, call -1, return -1, catch 2, return -1", "2/4:4 a", "0/1:4 b"), fn("call -1, return -1, catch 2, return -1", "0/1:2 b")},
		{"a row of all about nothing but such", fn("nop, call -1, return -1, catch 2, return -1, catch 2, print 0, return -1", "0/1:3", "0/2:5 b"), fn("call -1, return -1, catch 2, print 0, return -1", "0/1:2 b")},
		{"a row whose At can't be reached", fn("print 0, return -1, catch 2, return -1", "0/1:2 a"), fn("print 0, return -1")},
		{"a row behind one of all", fn("call -1, return -1, catch 2, return -1, catch 2, return -1", "0/1:2", "0/1:4 a"), fn("call -1, return -1, catch 2, return -1", "0/1:2")},
		{"a row of all behind one of all, which can't be reached", fn("call -1, return -1, catch 2, print 0, return -1, catch 2, return -1", "0/1:2", "0/4:5", "2/4:2 a"), fn("call -1, return -1, catch 2, print 0, return -1", "0/1:2", "2/4:2 a")},
		{"a row about what doesn't throw, whose At is reached by another one", fn("print 0, call -1, return -1, catch 2, return -1", "0/1:3 a", "1/2:3 b"), fn("print 0, call -1, return -1, catch 2, return -1", "0/1:3 a", "1/2:3 b")},
		{"the same row twice", fn("nop, call -1, return -1, catch 2, return -1", "0/2:3 a", "1/2:3 a"), fn("call -1, return -1, catch 2, return -1", "0/1:2 a", "0/1:2 a")},
		{"a row about its own At", fn("nop, throw 2, catch 2, throw 2", "1/4:2"), fn("throw 2, catch 2, throw 2", "0/3:1")},
		{"what is reached by what is caught alone", fn("throw 2, print 0, return -1, catch 2, nop, goto 1", "0/1:3"), fn("throw 2, print 0, return -1, catch 2, goto 1", "0/1:3")},
	} {
		if e := ins.Check(c.f); e != api.OK {
			t.Fatalf("%s: %s: %v", c.what, told(c.f), e)
		}
		if got := flow.Trim(c.f); !sameFunc(got, c.want) {
			t.Errorf("%s: Trim(%s) = %s, want %s", c.what, told(c.f), told(got), told(c.want))
		}
		checkReference(t, c.f)
	}
}

// TestTrimOfOthers: what isn't well formed is answered as it is, be there much to trim.
func TestTrimOfOthers(t *testing.T) {
	with := func(change func(f *api.Func)) api.Func {
		f := fn("nop, goto 3, nop, call -1, print 0, return -1, catch 2, return -1", "0/1:6 a", "3/4:6")
		f.Code[5].To = 77
		change(&f)
		return f
	}
	for what, f := range map[string]api.Func{
		"no instructions":      {},
		"nothing but a row":    {Rows: []api.Row{{From: 1, To: 0, At: -1}}},
		"nothing but numbers":  {Regs: []int{1, 9}, Params: []int{4}, Ret: 7},
		"OpNop alone":          fn("nop"),
		"doesn't end":          with(func(f *api.Func) { f.Code = append(f.Code, api.Ins{Op: 33, To: 5}) }),
		"to no place":          with(func(f *api.Func) { f.Code[1].To = 8 }),
		"to below 0":           with(func(f *api.Func) { f.Code[1].To = -1 }),
		"to a catch":           with(func(f *api.Func) { f.Code[1].To = 6 }),
		"OpNop at a row's At":  with(func(f *api.Func) { f.Rows[0].At = 2 }),
		"OpNop ahead of an At": with(func(f *api.Func) { f.Code[5] = api.Ins{Op: 33} }),
		"a row about nothing":  with(func(f *api.Func) { f.Rows[0].To = 0 }),
		"a row beyond the end": with(func(f *api.Func) { f.Rows[1].To = 9 }),
		"no such register":     with(func(f *api.Func) { f.Code[4].A = 4 }),
		"no such register, where nobody goes": with(func(f *api.Func) {
			f.Code[2] = api.Ins{Op: 19, A: 4}
		}),
		"no Op":             with(func(f *api.Func) { f.Code[0].Op = 0 }),
		"no kind":           with(func(f *api.Func) { f.Regs[3] = 0 }),
		"a parameter twice": with(func(f *api.Func) { f.Params[0] = 1 }),
	} {
		if e := ins.Check(f); e == api.OK {
			t.Errorf("%s: %s is well formed", what, told(f))
		}
		if got := flow.Trim(f); !sameFunc(got, f) {
			t.Errorf("%s: Trim(%s) = %s", what, told(f), told(got))
		}
		checkReference(t, f)
	}
	whole := with(func(*api.Func) {})
	if got, want := flow.Trim(whole), fn("goto 1, call -1, print 0, return -1, catch 2, return -1", "1/2:4"); !sameFunc(got, want) {
		t.Errorf("Trim(%s) = %s, want %s", told(whole), told(got), told(want))
	}
}

// TestTrimOfEachOp: every instruction but OpNop stays as it is, with its numbers that nobody needs; but To is 0, if it doesn't lead.
func TestTrimOfEachOp(t *testing.T) {
	for op := 1; op <= 33; op++ {
		for _, to := range []int{0, 3, -5, 99} {
			x := fullest(op)
			for i := 1; i < 4; i++ {
				if i >= len(kindsOf[op]) && op != 30 && op != 29 {
					*[]*int{nil, &x.A, &x.B, &x.C}[i] = -70 - i
				}
			}
			leads := op == 27 || op == 28 || op == 29
			if x.To = to; leads {
				x.To = 4
			}
			if x.Num == 0 && !leads {
				x.Num = 1
			}
			f := api.Func{Regs: []int{1, 1, 2, 2, 3, 3}, Params: []int{4, 0, 2}, Code: []api.Ins{{Op: 33, To: to}, {Op: 26, Dst: -1, To: to}, x, {Op: 33}, {Op: 30, A: -1, B: 5, To: to}}}
			if op == 32 {
				f.Code[1] = api.Ins{Op: 31, A: 4, To: to}
				f.Rows = []api.Row{{From: 0, To: 2, At: 2}}
			}
			if e := ins.Check(f); e != api.OK {
				t.Fatalf("%d: %v", op, e)
			}
			if x.To = 0; leads {
				x.To = 2
			}
			want := []api.Ins{f.Code[1], x, f.Code[4]}
			want[0].To, want[2].To = 0, 0
			switch op {
			case 30, 31:
				want = want[:2]
			case 33:
				want = []api.Ins{want[0], want[2]}
			}
			if got := flow.Trim(f); !slices.EqualFunc(got.Code, want, same) {
				t.Errorf("%d: Trim(%s) = %s", op, told(f), told(got))
			}
			checkReference(t, f)
		}
	}
}

// TestTrimKeepsTheRest: registers, parameters and what is given back, be nothing of them needed any more.
func TestTrimKeepsTheRest(t *testing.T) {
	f := api.Func{Regs: []int{3, 2, 1, 2}, Params: []int{3, 0}, Ret: 2, Code: []api.Ins{{Op: 33}, {Op: 30, A: 3}, {Op: 33}, {Op: 30, A: 1}}}
	want := api.Func{Regs: []int{3, 2, 1, 2}, Params: []int{3, 0}, Ret: 2, Code: []api.Ins{{Op: 30, A: 3}}}
	if got := flow.Trim(f); !sameFunc(got, want) {
		t.Errorf("Trim(%s) = %s", told(f), told(got))
	}
}
