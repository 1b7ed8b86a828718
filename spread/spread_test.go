package spread_test

import (
	"math/rand"
	"slices"
	"testing"

	"reglet/spread"
)

// A web is made of places that lie anywhere. What lies at a place goes to its next ones, but for what it keeps, and with what it adds.
type web struct {
	next        [][]int
	keeps, adds []uint64
}

func randomWeb(r *rand.Rand, n int) web {
	w := web{make([][]int, n), make([]uint64, n), make([]uint64, n)}
	for i := range n {
		for range r.Intn(3) {
			w.next[i] = append(w.next[i], r.Intn(n))
		}
		w.keeps[i], w.adds[i] = r.Uint64()&r.Uint64(), r.Uint64()&r.Uint64()&r.Uint64()&r.Uint64()
	}
	return w
}

func (w web) passed(i int, marks uint64) uint64 { return (marks | w.adds[i]) &^ w.keeps[i] }

// all lets marks go on from all places, again and again, till none is new. From places that were never done nothing goes on.
func (w web) all(marks []uint64, first []int) []uint64 {
	marks = slices.Clone(marks)
	done := make([]bool, len(marks))
	for _, i := range first {
		done[i] = true
	}
	for isNew := true; isNew; {
		isNew = false
		for i, l := range w.next {
			for _, to := range l {
				if more := w.passed(i, marks[i]); done[i] && more&^marks[to] != 0 {
					marks[to] |= more
					done[to], isNew = true, true
				}
			}
		}
	}
	return marks
}

// TestMarks holds it against what goes over all places till nothing is new.
func TestMarks(t *testing.T) {
	r := rand.New(rand.NewSource(1))
	for range 3000 {
		w := randomWeb(r, 1+r.Intn(12))
		begin := make([]uint64, len(w.next))
		for i := range begin {
			if r.Intn(3) == 0 {
				begin[i] = r.Uint64()
			}
		}
		todo := r.Perm(len(begin))[:r.Intn(len(begin)+1)]
		got, given := slices.Clone(begin), slices.Clone(todo)
		spread.Marks(got, todo, func(i int, bring func(int, uint64)) {
			for _, to := range w.next[i] {
				bring(to, w.passed(i, got[i]))
			}
		})
		if want := w.all(begin, todo); !slices.Equal(got, want) {
			t.Fatalf("%+v: %v from %v on is %v, want %v", w, begin, todo, got, want)
		}
		if !slices.Equal(todo, given) {
			t.Fatalf("the places %v are %v now", given, todo)
		}
	}
}

// TestOrder: the last place is done first, what something is brought to at once, and nothing again to which nothing new is brought.
func TestOrder(t *testing.T) {
	var done []int
	behind := [4]int{7, 7, 7, 7}
	todo := behind[:2:4]
	todo[0], todo[1] = 1, 0
	marks := make([]uint64, 4)
	spread.Marks(marks, todo, func(i int, bring func(int, uint64)) {
		done = append(done, i)
		switch i {
		case 0:
			bring(3, 1)
			bring(1, 4)
			bring(3, 2)
			bring(2, 0)
		case 3:
			bring(1, 4)
			bring(3, 1)
		case 1:
			bring(3, 5)
		}
	})
	if want := []int{0, 3, 1, 3}; !slices.Equal(done, want) || !slices.Equal(marks, []uint64{0, 4, 0, 7}) {
		t.Errorf("done: %v, want %v; marks: %v", done, want, marks)
	}
	if behind != [4]int{1, 0, 7, 7} {
		t.Errorf("the room behind the places is %v now", behind)
	}
	spread.Marks([]uint64{1}, nil, func(int, func(int, uint64)) { t.Error("a place is done that nobody named") })
}
