package check_test

import (
	"slices"
	"testing"

	"reglet/api"
)

// A flaw is something wrong that can be done to a flawless method, and its error.
type flaw struct {
	e  api.Errno
	do func(s *subject)
}

// flawless has instructions for each flaw of the fourth step, and somebody who catches.
func flawless() subject {
	return of(0, "(I)V", 2, 3, "0, 0, 0, 0, 3, 153 @8, 0, 177, 87, 177",
		frame(4, "Lb;,I|"), frame(8, "|"), frame(10, "|LThrowable;"),
	).rows(api.Row{From: 0, To: 1, At: 10}, api.Row{From: 4, To: 5, At: 10})
}

// flaws are some of each step, in the order in which they are told.
func flaws() []flaw {
	// Ahead of rows that were put in before, behind those that were there.
	row := func(r api.Row) func(s *subject) {
		return func(s *subject) { s.method.Rows = slices.Insert(s.method.Rows, 2, r) }
	}
	// From the last one on: a flaw puts one in front.
	frame := func(s *subject, fromLast int) *api.Frame {
		return &s.method.Frames[len(s.method.Frames)-1-fromLast]
	}
	return []flaw{
		{codeError, func(s *subject) { s.method.Code = append(s.method.Code, 254) }},
		{placeError, func(s *subject) { s.method.Code[7] = 200 }},
		{argError, func(s *subject) { s.method.Stack = -1 }},
		{argError, func(s *subject) { s.method.Locals = 41 }},
		{descError, func(s *subject) { s.method.Desc += "V" }},
		{kinError, func(s *subject) { s.method.Desc = "(Lz;" + s.method.Desc[1:] }},
		{stackError, func(s *subject) { s.method.Desc = "(IIII" + s.method.Desc[1:] }},

		{frameError, func(s *subject) { s.method.Frames = append([]api.Frame{{Pc: -1}}, s.method.Frames...) }},
		{kinError, func(s *subject) { frame(s, 2).Locals = []string{"", "", "V"} }},
		{frameError, func(s *subject) { frame(s, 1).Stack = []string{""} }},

		{typeError, func(s *subject) { frame(s, 0).Stack = []string{"N"} }},
		{placeError, row(api.Row{From: 3, To: 3})},
		{kinError, row(api.Row{From: 0, To: 1, At: 0, Class: "a"})},
		{frameError, row(api.Row{From: 0, To: 1, At: 0})},

		{typeError, func(s *subject) { frame(s, 0).Locals = []string{"J"} }},
		{stackError, func(s *subject) { s.method.Code[0] = 87 }},
		{constError, func(s *subject) { copy(s.method.Code[1:], "\xbb\x00\x00") }},
		{typeError, func(s *subject) { frame(s, 2).Locals = []string{"Ld;"} }},
		{stackError, func(s *subject) { s.method.Code[4] = 87 }},
		{typeError, func(s *subject) { frame(s, 1).Stack = []string{"I"} }},

		{frameError, func(s *subject) { s.method.Code[11] = 0 }},
	}
}

// TestFirstOfSeveralFaults: each flaw by itself, and any two of them.
func TestFirstOfSeveralFaults(t *testing.T) {
	checkTaken(t, flawless())
	all := flaws()
	for i, first := range all {
		checkFault(t, first.e, flawless().with(first.do))
		for _, second := range all[i+1:] {
			// Where both are done to one thing it is the first one that stays.
			checkFault(t, first.e, flawless().with(second.do).with(first.do))
		}
	}
}

// TestFirstFaultOfTheBeginning: that the code isn't taken apart is told ahead of all else, and so on.
func TestFirstFaultOfTheBeginning(t *testing.T) {
	s := subject{method: api.Method{Stack: -1, Locals: -1, Desc: "(", Rows: []api.Row{{}}, Frames: []api.Frame{{Pc: -1}}}}
	checkFault(t, codeError, s)
	s.method.Code = []byte{177, 0}
	checkFault(t, argError, s)
	s.method.Stack = 0
	checkFault(t, argError, s)
	s.method.Locals = 0
	checkFault(t, descError, s)
	s.method.Desc = "(Lz;)V"
	checkFault(t, kinError, s)
	s.method.Desc = "(I)Lz;"
	checkFault(t, kinError, s)
	s.method.Desc = "()V"
	checkFault(t, stackError, s)
	s.method.Locals = 1
	checkFault(t, frameError, s)
	s.method.Frames = nil
	checkFault(t, placeError, s)
	s.method.Rows = nil
	checkFault(t, frameError, s)
	s.method.Code = []byte{0, 177}
	checkTaken(t, s)
}

// TestFirstFaultOfAnInstruction: its frame, then the rows about it, then what it does, then where it leads.
func TestFirstFaultOfAnInstruction(t *testing.T) {
	s := of(0, "(I)V", 2, 2, "0, 153 @5, 177, 177, 87, 177", frame(1, "J|"), frame(6, "J|LThrowable;")).rows(api.Row{From: 1, To: 4, At: 6})
	checkFault(t, typeError, s)
	s.method.Frames[0].Locals[0] = "Lb;"
	checkFault(t, typeError, s)
	s.method.Rows = nil
	checkFault(t, stackError, s)
	s.method.Code[0] = 3
	s.method.Frames[0].Stack = []string{"I"}
	checkFault(t, frameError, s)
	s.method.Frames = []api.Frame{s.method.Frames[0], frame(5, "|I"), s.method.Frames[1]}
	checkFault(t, typeError, s)
	s.method.Frames[1].Stack = nil
	checkTaken(t, s)
}
