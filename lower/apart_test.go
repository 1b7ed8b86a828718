package lower_test

import (
	"math/rand"
	"reflect"
	"slices"
	"sync"
	"testing"

	"reglet/api"
	"reglet/ins"
	"reglet/link"
	"reglet/lower"
)

// ordinary is a world whose functions have all lists that there are, several of each.
func ordinary(t *testing.T) *program {
	t.Helper()
	return programOf(t, randomWorld(rand.New(rand.NewSource(7)), 30))
}

// fill writes over a list and the room behind it.
func fill[T any](l []T, by T) {
	l = l[:cap(l)]
	for i := range l {
		l[i] = by
	}
}

// spoil writes over all that a function leads to.
func spoil(f api.Func) {
	fill(f.Regs, 88)
	fill(f.Params, 88)
	fill(f.Rows, api.Row{From: 88})
	for _, x := range f.Code {
		fill(x.Args, 88)
	}
	fill(f.Code, api.Ins{Op: 88})
}

// lists are the lists of numbers that a function has.
func lists(f *api.Func) []*[]int {
	l := []*[]int{&f.Regs, &f.Params}
	for i := range f.Code {
		l = append(l, &f.Code[i].Args)
	}
	return l
}

// answers are all that a world tells, and its functions.
func answers(w *link.World) []any {
	l := []any{w.Classes(), w.Methods(), w.Statics(), w.Tree().Names()}
	for id := range w.Classes() {
		info, there := w.Info(id)
		c, _ := w.Tree().Class(info.Name)
		l = append(l, info, there, c)
	}
	for id := -1; id <= w.Methods(); id++ {
		known, m, there := w.Method(id)
		f, e := lower.Method(w, id)
		l = append(l, known, m, there, f, e)
	}
	return l
}

// TestWorldStays: no call changes the world, nor does what becomes of an answer.
func TestWorldStays(t *testing.T) {
	p, other := ordinary(t), ordinary(t)
	for id := range p.world.Methods() {
		f, _ := lower.Method(p.world, id)
		spoil(f)
	}
	if !reflect.DeepEqual(answers(p.world), answers(other.world)) {
		t.Error("the world, or what it answers, is changed")
	}
}

// TestAnswersAreApart: from each other, and list from list.
func TestAnswersAreApart(t *testing.T) {
	p := ordinary(t)
	args := 0
	for id := range p.funcs {
		want := ins.Copy(p.funcs[id])
		first, _ := lower.Method(p.world, id)
		second, _ := lower.Method(p.world, id)
		spoil(second)
		if !sameFunc(first, want) {
			t.Fatalf("two answers share memory, or one is kept: %+v, want %+v", first, want)
		}
		for i := range lists(&first) {
			f, _ := lower.Method(p.world, id)
			kept := ins.Copy(want)
			fill(*lists(&f)[i], 88)
			fill(*lists(&kept)[i], 88)
			args += len(*lists(&f)[i])
			if !sameFunc(f, kept) {
				t.Fatalf("list %d has another one's memory: %+v", i, f)
			}
		}
	}
	if args < 100 {
		t.Errorf("only %d numbers in lists", args)
	}
}

// sameFunc: are they the same, be their empty lists nil or not?
func sameFunc(a, b api.Func) bool {
	sameIns := func(x, y api.Ins) bool {
		sameArgs := slices.Equal(x.Args, y.Args)
		x.Args, y.Args = nil, nil
		return sameArgs && reflect.DeepEqual(x, y)
	}
	return slices.Equal(a.Regs, b.Regs) && slices.Equal(a.Params, b.Params) && a.Ret == b.Ret && slices.Equal(a.Rows, b.Rows) && slices.EqualFunc(a.Code, b.Code, sameIns)
}

// TestAnswersHangOnNothingElse: asked again, and by several at once, a world answers the same; and so does a world that is made again.
func TestAnswersHangOnNothingElse(t *testing.T) {
	shared := ordinary(t).world
	first := answers(shared)
	var all sync.WaitGroup
	for range 8 {
		all.Go(func() {
			again, _ := link.New(randomWorld(rand.New(rand.NewSource(7)), 30))
			for range 10 {
				if !reflect.DeepEqual(answers(shared), first) || !reflect.DeepEqual(answers(again), first) {
					t.Error("a world answers otherwise than before")
				}
			}
		})
	}
	all.Wait()
}
