package flow_test

import (
	"math"
	"slices"
	"testing"

	"reglet/api"
	"reglet/flow"
)

func TestExamplesOfTheChapter(t *testing.T) {
	if got := flow.Next(api.Func{Code: []api.Ins{{Op: 28, To: 2}}}, 0); !slices.Equal(got, []int{1, 2}) {
		t.Errorf("Next of OpIfInt to 2: %v", got)
	}
	if got := flow.Next(api.Func{Code: []api.Ins{{Op: 28, To: 1}}}, 0); !slices.Equal(got, []int{1}) {
		t.Errorf("Next of OpIfInt to 1: %v", got)
	}
	got := flow.Trim(api.Func{Code: []api.Ins{{Op: 33}, {Op: 30, A: -1}}})
	if want := (api.Func{Code: []api.Ins{{Op: 30, A: -1}}}); !sameFunc(got, want) {
		t.Errorf("OpNop, OpReturn trimmed: %+v", got)
	}
}

// TestNextOfEachOp: of those of the table and of some that are none.
func TestNextOfEachOp(t *testing.T) {
	for op := -2; op <= 36; op++ {
		want := []int{2}
		switch op {
		case 27:
			want = []int{3}
		case 28, 29:
			want = []int{2, 3}
		case 30, 31:
			want = nil
		}
		f := api.Func{Code: []api.Ins{{Op: 33}, {Op: op, To: 3}, {Op: 33}, {Op: 33}}}
		if got := flow.Next(f, 1); !slices.Equal(got, want) {
			t.Errorf("Next of %d: %v, want %v", op, got, want)
		}
	}
}

func TestNext(t *testing.T) {
	endless := api.Func{Code: []api.Ins{{Op: 33}, {Op: 28, To: 9}}}
	for _, c := range []struct {
		what string
		f    api.Func
		i    int
		want []int
	}{
		{"no instructions", api.Func{}, 0, nil},
		{"a place below 0", fn("nop, return -1"), -1, nil},
		{"far below 0", fn("nop, return -1"), math.MinInt, nil},
		{"behind the last place", fn("nop, goto 0"), 2, nil},
		{"far behind", fn("nop, goto 0"), math.MaxInt, nil},
		{"the last place, which ends", fn("nop, return -1"), 1, nil},
		{"the last place, which ends and leads", fn("nop, goto 0"), 1, []int{0}},
		{"the last place, which doesn't end", fn("return -1, nop"), 1, []int{2}},
		{"the last place, which leads beyond", endless, 1, []int{2, 9}},
		{"to the next place", fn("if 0 0 1, return -1"), 0, []int{1}},
		{"ends, to the next place", fn("goto 1, return -1"), 0, []int{1}},
		{"to itself", fn("nop, if 0 0 1, return -1"), 1, []int{2, 1}},
		{"ends, to itself", fn("goto 0"), 0, []int{0}},
		{"back", fn("nop, nop, ifref 2 3 0, return -1"), 2, []int{3, 0}},
		{"to no place", fn("if 0 0 -1, return -1"), 0, []int{1, -1}},
		{"to none behind the end", fn("if 0 0 2, return -1"), 0, []int{1, 2}},
		{"ends, to no place", fn("goto 77"), 0, []int{77}},
		{"far to no place", api.Func{Code: []api.Ins{{Op: 27, To: math.MinInt}}}, 0, []int{math.MinInt}},
		{"an instruction that doesn't lead, with a To", api.Func{Code: []api.Ins{{Op: 8, To: 1}, {Op: 30, To: 0}}}, 1, nil},
		{"a call with a To", api.Func{Code: []api.Ins{{Op: 23, To: 2}, {Op: 33}, {Op: 33}}}, 0, []int{1}},
		{"what is caught doesn't follow", fn("call -1, return -1, catch 2, return -1", "0/1:2"), 0, []int{1}},
	} {
		if got := flow.Next(c.f, c.i); !slices.Equal(got, c.want) {
			t.Errorf("%s: Next(%s, %d) = %v, want %v", c.what, told(c.f), c.i, got, c.want)
		}
		checkReference(t, c.f)
	}
}

// TestCaughtOfEachOp: just those catch that throw.
func TestCaughtOfEachOp(t *testing.T) {
	throws := []int{7, 8, 9, 10, 11, 12, 20, 21, 23, 24, 25, 26, 31}
	for op := -2; op <= 36; op++ {
		f := api.Func{Code: []api.Ins{{Op: 33}, {Op: op}}, Rows: []api.Row{{From: 1, To: 2, At: 5, Class: "a"}}}
		var want []int
		if slices.Contains(throws, op) {
			want = []int{5}
		}
		if got := flow.Caught(f, 1); !slices.Equal(got, want) {
			t.Errorf("Caught of %d: %v, want %v", op, got, want)
		}
	}
}

func TestCaught(t *testing.T) {
	// All but the last of these places throw.
	const calls = "call -1, call -1, call -1, call -1, call -1, return -1"
	for _, c := range []struct {
		what string
		rows []string
		i    int
		want []int
	}{
		{"no rows", nil, 2, nil},
		{"From itself", []string{"2/4:5 a"}, 2, []int{5}},
		{"ahead of From", []string{"2/4:5 a"}, 1, nil},
		{"the last place ahead of To", []string{"2/4:5 a"}, 3, []int{5}},
		{"To itself", []string{"2/4:5 a"}, 4, nil},
		{"behind To", []string{"0/1:5 a"}, 2, nil},
		{"what doesn't throw", []string{"0/6:5 a"}, 5, nil},
		{"a place below 0", []string{"-9/9:5 a"}, -1, nil},
		{"far below 0", []string{"-9223372036854775808/9:5 a"}, math.MinInt, nil},
		{"behind the last place", []string{"-9/9:5 a"}, 6, nil},
		{"far behind", []string{"0/9223372036854775807:5 a"}, math.MaxInt - 1, nil},
		{"in the rows' order", []string{"0/3:9 a", "0/3:7 b", "0/3:8 c"}, 1, []int{9, 7, 8}},
		{"one At in two rows", []string{"0/3:9 a", "0/3:7 b", "0/3:9 c"}, 1, []int{9, 7}},
		{"one row twice", []string{"0/3:9 a", "0/3:9 a", "0/3:7 a"}, 1, []int{9, 7}},
		{"a row of all at the end", []string{"0/3:9 a", "0/3:7"}, 1, []int{9, 7}},
		{"a row of all in the middle", []string{"0/3:9 a", "0/3:7", "0/3:8 c", "0/3:6"}, 1, []int{9, 7}},
		{"a row of all at the beginning", []string{"0/3:9", "0/3:7 a"}, 1, []int{9}},
		{"a row of all that is about other places", []string{"0/3:9 a", "3/6:7", "0/3:8 c"}, 1, []int{9, 8}},
		{"a row of all up to the place", []string{"0/1:9", "1/2:8 c"}, 1, []int{8}},
		{"a row of all whose At is told already", []string{"0/3:9 a", "0/3:9", "0/3:8 c"}, 1, []int{9}},
		{"From below 0", []string{"-5/2:9 a"}, 1, []int{9}},
		{"To behind the end", []string{"1/99:9 a"}, 4, []int{9}},
		{"To ahead of From", []string{"3/1:9 a", "2/2:8 a"}, 2, nil},
		{"a row of all that is about nothing", []string{"2/2:9", "3/1:9", "0/3:8 c"}, 2, []int{8}},
		{"At no place", []string{"0/3:-1 a", "0/3:66 a"}, 1, []int{-1, 66}},
		{"At what doesn't catch", []string{"0/3:0 a", "0/3:1 a"}, 1, []int{0, 1}},
	} {
		f := fn(calls, c.rows...)
		if got := flow.Caught(f, c.i); !slices.Equal(got, c.want) {
			t.Errorf("%s: Caught(%s, %d) = %v, want %v", c.what, told(f), c.i, got, c.want)
		}
		checkReference(t, f)
	}
	if got := flow.Caught(api.Func{Rows: []api.Row{{From: -1, To: 1, At: 0}}}, 0); len(got) > 0 {
		t.Errorf("Caught where there are no instructions: %v", got)
	}
}

// places are those that are true.
func places(l []bool) []int {
	var is []int
	for i := range l {
		if l[i] {
			is = append(is, i)
		}
	}
	return is
}

func TestReach(t *testing.T) {
	for _, c := range []struct {
		what string
		f    api.Func
		want []int
	}{
		{"no instructions", api.Func{}, nil},
		{"no instructions, but a row", api.Func{Rows: []api.Row{{From: 0, To: 1, At: 0}}}, nil},
		{"one behind the other", fn("nop, nop, return -1"), []int{0, 1, 2}},
		{"behind one that ends", fn("nop, return -1, nop, return -1"), []int{0, 1}},
		{"over some", fn("goto 2, nop, return -1"), []int{0, 2}},
		{"back", fn("goto 3, nop, return -1, goto 1"), []int{0, 1, 2, 3}},
		{"both ways", fn("if 0 0 3, return -1, nop, return -1"), []int{0, 1, 3}},
		{"a circle", fn("nop, if 0 0 0, goto 0, return -1"), []int{0, 1, 2}},
		{"a circle that nobody leads to", fn("return -1, nop, goto 1"), []int{0}},
		{"one that leads, but isn't reached", fn("return -1, goto 3, nop, return -1"), []int{0}},
		{"where a thing is caught", fn("call -1, return -1, catch 2, return -1", "0/1:2 a"), []int{0, 1, 2, 3}},
		{"by OpThrow", fn("throw 2, catch 2, return -1", "0/1:1"), []int{0, 1, 2}},
		{"where a thing is caught that nobody throws", fn("nop, return -1, catch 2, return -1", "0/1:2 a"), []int{0, 1}},
		{"where it is caught, but of others", fn("call -1, return -1, catch 2, return -1", "1/2:2 a"), []int{0, 1}},
		{"where it would be caught behind a row of all", fn("call -1, return -1, catch 2, return -1, catch 2, return -1", "0/1:2", "0/1:4 a"), []int{0, 1, 2, 3}},
		{"behind a row of all that is about another place", fn("call -1, nop, call -1, return -1, catch 2, return -1, catch 2, return -1", "0/1:4", "0/3:6"), []int{0, 1, 2, 3, 4, 5, 6, 7}},
		{"what is thrown by the second place of a row", fn("nop, call -1, return -1, catch 2, return -1", "0/2:3 a"), []int{0, 1, 2, 3, 4}},
		{"what is thrown while another thing is caught", fn("call -1, return -1, catch 2, call -1, return -1, catch 2, return -1", "0/1:2 a", "3/4:5 a"), []int{0, 1, 2, 3, 4, 5, 6}},
		{"caught by one that nobody reaches", fn("return -1, call -1, return -1, catch 2, return -1", "1/2:3"), []int{0}},
		{"to no place", fn("if 0 0 -1, if 0 0 9, goto 3"), []int{0, 1, 2}},
		{"far to no place", api.Func{Code: []api.Ins{{Op: 28, To: math.MinInt}, {Op: 27, To: math.MaxInt}, {Op: 33}}}, []int{0, 1}},
		{"behind the end", fn("nop, nop"), []int{0, 1}},
		{"caught at no place", fn("call -1, return -1", "0/1:-1", "0/1:2", "-5/9:-7"), []int{0, 1}},
		{"caught at what doesn't catch", fn("call -1, return -1, nop, nop", "0/1:2 a"), []int{0, 1, 2, 3}},
		{"about more than there is", fn("call -1, return -1, nop", "-5/99:2 a"), []int{0, 1, 2}},
		{"about nothing", fn("call -1, return -1, nop", "1/0:2 a", "0/0:2 b"), []int{0, 1}},
		{"no Ops", api.Func{Code: []api.Ins{{Op: 0, To: 3}, {Op: 99, To: 3}, {Op: 30}, {Op: 33}}}, []int{0, 1, 2}},
	} {
		got := flow.Reach(c.f)
		if len(got) != len(c.f.Code) || !slices.Equal(places(got), c.want) {
			t.Errorf("%s: Reach(%s) = %v, want %v", c.what, told(c.f), got, c.want)
		}
		checkReference(t, c.f)
	}
}

func TestHeads(t *testing.T) {
	for _, c := range []struct {
		what string
		f    api.Func
		want []int
	}{
		{"no instructions", api.Func{}, nil},
		{"no instructions, but a row", api.Func{Rows: []api.Row{{From: 0, To: 1, At: 0}}}, nil},
		{"the beginning alone", fn("nop, const 0, call 0, return -1"), []int{0}},
		{"behind one that ends", fn("return -1, nop, throw 2, nop, nop"), []int{0, 1, 3}},
		{"a way, and behind it", fn("nop, if 0 0 4, nop, nop, nop, return -1"), []int{0, 2, 4}},
		{"a way of references", fn("nop, ifref 2 3 4, nop, nop, nop, return -1"), []int{0, 2, 4}},
		{"one that ends and leads", fn("nop, goto 4, nop, nop, nop, return -1"), []int{0, 2, 4}},
		{"a way back", fn("nop, nop, nop, if 0 0 1, return -1"), []int{0, 1, 4}},
		{"a way to the next place", fn("nop, if 0 0 2, return -1"), []int{0, 2}},
		{"a way to itself", fn("nop, if 0 0 1, return -1"), []int{0, 1, 2}},
		{"several ways to one place", fn("if 0 0 4, if 0 0 4, goto 4, nop, return -1"), []int{0, 1, 2, 3, 4}},
		{"what can't be reached", fn("return -1, nop, nop, goto 2, nop, return -1"), []int{0, 1, 2, 4}},
		{"a row", fn("nop, nop, nop, nop, return -1, catch 2, nop, return -1", "1/3:5"), []int{0, 1, 3, 5}},
		{"a row by itself", fn("nop, nop, nop, nop, nop, nop, nop", "1/3:5 a"), []int{0, 1, 3, 5}},
		{"a row to the end", fn("nop, nop, nop, nop", "2/4:3"), []int{0, 2, 3}},
		{"several rows", fn("nop, nop, nop, nop, nop, nop, nop", "1/3:5 a", "4/5:5 a", "1/3:5 a"), []int{0, 1, 3, 4, 5}},
		{"a row that is about nothing", fn("nop, nop, nop, nop, nop, nop, nop", "4/2:6", "3/3:6"), []int{0, 2, 3, 4, 6}},
		{"a row of places that are none", fn("nop, nop, nop, nop", "-1/4:5", "-7/99:-1", "9223372036854775807/-9223372036854775808:4"), []int{0}},
		{"a row of which one place is there", fn("nop, nop, nop, nop", "-1/2:9", "1/99:-3", "9/9:3"), []int{0, 1, 2, 3}},
		{"ways to no place", fn("if 0 0 -1, if 0 0 3, nop"), []int{0, 1, 2}},
		{"behind the end", fn("nop, goto 7"), []int{0}},
		{"one that doesn't lead, with a To", api.Func{Code: []api.Ins{{Op: 8, To: 2}, {Op: 33, To: 2}, {Op: 30, To: 2}}}, []int{0}},
		{"no Ops", api.Func{Code: []api.Ins{{Op: 0, To: 2}, {Op: 34, To: 2}, {Op: -1, To: 2}}}, []int{0}},
		{"what throws", fn("check 2, call -1, new 2, return -1"), []int{0}},
	} {
		if got := flow.Heads(c.f); !slices.Equal(got, c.want) {
			t.Errorf("%s: Heads(%s) = %v, want %v", c.what, told(c.f), got, c.want)
		}
		checkReference(t, c.f)
	}
}
