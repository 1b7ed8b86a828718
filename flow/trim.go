package flow

import (
	"reglet/api"
	"reglet/ins"
)

// Trim: the function without what can't be reached, and without what does nothing; as it is, if it isn't well formed.
func Trim(f api.Func) api.Func {
	g := ins.Copy(f)
	if ins.Check(f) != api.OK {
		return g
	}
	reach := Reach(f)
	now := newPlaces(f, reach)
	g.Code = trimmedCode(g.Code, now)
	g.Rows = trimmedRows(f.Rows, reach, now)
	return g
}

// newPlaces tells of each place, and of the end, how many instructions ahead of it stay: that is where it lies then, or what follows first of it, if it doesn't stay itself.
func newPlaces(f api.Func, reach []bool) []int {
	now := make([]int, len(f.Code)+1)
	for i, x := range f.Code {
		now[i+1] = now[i]
		if reach[i] && x.Op != api.OpNop {
			now[i+1]++
		}
	}
	return now
}

// trimmedCode are the instructions that stay, leading to the new places.
func trimmedCode(code []api.Ins, now []int) []api.Ins {
	l := make([]api.Ins, 0, now[len(code)])
	for i, x := range code {
		stays := now[i] < now[i+1]
		if !stays {
			continue
		}
		if ins.Leads(x) {
			x.To = now[x.To]
		} else {
			x.To = 0
		}
		l = append(l, x)
	}
	return l
}

// trimmedRows are the rows that may still catch something.
func trimmedRows(rows []api.Row, reach []bool, now []int) []api.Row {
	var l []api.Row
	for _, r := range rows {
		from, to := now[r.From], now[r.To]
		if from < to && reach[r.At] {
			l = append(l, api.Row{From: from, To: to, At: now[r.At], Class: r.Class})
		}
	}
	return l
}
