package spread_test

import (
	"math/rand"
	"slices"
	"testing"

	"reglet/api"
	"reglet/flow"
	"reglet/ins"
	"reglet/spread"
)

// randomFunc has checks, ways and other things, and rows about some of them. All else of it isn't well formed.
func randomFunc(r *rand.Rand) api.Func {
	f := api.Func{Code: make([]api.Ins, 1+r.Intn(10))}
	last := len(f.Code) - 1
	for i := range f.Code {
		f.Code[i] = api.Ins{Op: []int{8, 8, 23, 31, 1, 27, 28, 33}[r.Intn(8)], To: r.Intn(len(f.Code))}
	}
	f.Code[last].Op = []int{27, 30, 31}[r.Intn(3)]
	for range r.Intn(5) {
		from := r.Intn(len(f.Code))
		f.Rows = append(f.Rows, api.Row{From: from, To: from + 1 + r.Intn(len(f.Code)-from), At: r.Intn(len(f.Code)), Class: []string{"", "a"}[r.Intn(2)]})
	}
	return f
}

// leadingTo are the numbers of the lists in which a number is.
func leadingTo(lists [][]int, n int) []int {
	var l []int
	for i, list := range lists {
		if slices.Contains(list, n) {
			l = append(l, i)
		}
	}
	return l
}

// TestWays: they are those of layer 11, and the same back.
func TestWays(t *testing.T) {
	r := rand.New(rand.NewSource(2))
	for range 3000 {
		f := randomFunc(r)
		w := spread.WaysOf(f)
		for i := range f.Code {
			if want := flow.Next(f, i); !slices.Equal(w.Next[i], want) {
				t.Fatalf("%+v: behind %d come %v, want %v", f, i, w.Next[i], want)
			}
			if want := leadingTo(w.Next, i); !slices.Equal(w.Prior[i], want) {
				t.Fatalf("%+v: ahead of %d come %v, want %v", f, i, w.Prior[i], want)
			}
			if want := leadingTo(w.Caught, i); !slices.Equal(w.Catches[i], want) {
				t.Fatalf("%+v: at %d is caught what is thrown in %v, want %v", f, i, w.Catches[i], want)
			}
			var caught []int
			if s := w.Stretch[i]; s != spread.None {
				caught = w.Caught[s]
			}
			if want := flow.Caught(f, i); !slices.Equal(caught, want) {
				t.Fatalf("%+v: what %d throws is caught at %v, want %v", f, i, caught, want)
			}
		}
		if n := len(f.Code); len(w.Next) != n || len(w.Prior) != n || len(w.Stretch) != n || len(w.Catches) != n || len(w.Caught) != len(w.Throwing) {
			t.Fatalf("%+v has the ways %+v", f, w)
		}
	}
}

// TestStretches: each place that throws lies in one, in order, with just those about which the same rows are.
func TestStretches(t *testing.T) {
	r := rand.New(rand.NewSource(3))
	lengths := map[int]int{}
	for range 3000 {
		f := randomFunc(r)
		w := spread.WaysOf(f)
		var want []int
		for i, x := range f.Code {
			if ins.Throws(x) {
				want = append(want, i)
			}
			if ins.Throws(x) != (w.Stretch[i] != spread.None) {
				t.Fatalf("%+v: %d lies in stretch %d", f, i, w.Stretch[i])
			}
		}
		if got := slices.Concat(w.Throwing...); !slices.Equal(got, want) {
			t.Fatalf("%+v: %v throw, but %v do", f, w.Throwing, want)
		}
		for s, places := range w.Throwing {
			lengths[len(places)]++
			for _, i := range places {
				if w.Stretch[i] != s {
					t.Fatalf("%+v: %d lies in stretch %d, not in %d", f, i, w.Stretch[i], s)
				}
				for _, row := range f.Rows {
					if (row.From <= i && i < row.To) != (row.From <= places[0] && places[0] < row.To) {
						t.Fatalf("%+v: %+v is about one of %v alone", f, row, places)
					}
				}
			}
		}
	}
	if lengths[0] > 0 || lengths[1] < 100 || lengths[2] < 100 || lengths[3] < 100 {
		t.Errorf("%v", lengths)
	}
	// No more than there must be.
	f := api.Func{Code: append(slices.Repeat([]api.Ins{{Op: 8}}, 5), api.Ins{Op: 30}), Rows: []api.Row{{From: 1, To: 3}, {From: 1, To: 5}}}
	if got := spread.WaysOf(f).Throwing; len(got) != 3 {
		t.Errorf("%v", got)
	}
}
