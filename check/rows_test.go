package check_test

import (
	"math"
	"testing"

	"reglet/api"
)

// caught has instructions at 0, 2, 3, 6, 7, 8 and 9; from 8 on stands who catches. Its end is 10.
func caught(locals string, rows ...api.Row) subject {
	return of(0, "(IJ)V", 3, 4, "16 1, 87, 17 1, 87, 177, 87, 177", frame(8, locals+"|LThrowable;")).rows(rows...)
}

func TestRowsThatAreTaken(t *testing.T) {
	checkTaken(t, caught(""))
	for _, r := range []api.Row{
		{From: 0, To: 2, At: 8}, {From: 0, To: 7, At: 8}, {From: 0, To: 10, At: 8}, {From: 9, To: 10, At: 8}, {From: 8, To: 9, At: 8}, {From: 8, To: 10, At: 8},
		{From: 2, To: 3, At: 8, Class: "e"}, {From: 3, To: 6, At: 8, Class: "e2"}, {From: 6, To: 7, At: 8, Class: "Throwable"}, {From: 7, To: 8, At: 8, Class: "DepthFault"},
	} {
		checkTaken(t, caught("", r))
		checkTaken(t, caught("", r, r, api.Row{From: 0, To: 10, At: 8, Class: "Exception"}))
	}
	for _, locals := range []string{"Lb;", "La;,I", "LObject;,I,J", "Li;,,J,"} {
		checkTaken(t, caught(locals, api.Row{From: 0, To: 8, At: 8}))
	}
	var many []api.Row
	for range 200 {
		many = append(many, api.Row{From: 0, To: 10, At: 8})
	}
	checkTaken(t, caught("", many...))
}

func TestPlacesOfRows(t *testing.T) {
	wrong := []int{1, 4, 5, 11, 4000, -1, -2, math.MinInt, math.MaxInt, math.MinInt32, 1 << 32, 8 + 1<<32}
	for _, place := range wrong {
		checkFault(t, placeError, caught("", api.Row{From: place, To: 10, At: 8}))
		checkFault(t, placeError, caught("", api.Row{From: 0, To: place, At: 8}))
		checkFault(t, placeError, caught("", api.Row{From: 0, To: 10, At: place}))
		// A class that isn't there comes behind.
		checkFault(t, placeError, caught("", api.Row{From: 0, To: 10, At: place, Class: "z"}))
	}
	// From is To, or above it; from the end, and to it; at the end.
	for _, r := range []api.Row{{From: 0, To: 0}, {From: 2, To: 2}, {From: 8, To: 7}, {From: 9, To: 0}, {From: 10, To: 10}, {From: 10, To: 11}, {From: 10, To: 9}} {
		r.At = 8
		checkFault(t, placeError, caught("", r))
	}
	checkFault(t, placeError, caught("", api.Row{From: 0, To: 10, At: 10}))
	// At the end's own place no instruction may begin within another one.
	checkFault(t, placeError, static("()V", 1, 1, "177, 16 1, 177", frame(1, "|")).rows(api.Row{From: 0, To: 2, At: 1}))
}

func TestClassesOfRows(t *testing.T) {
	for _, class := range []string{"z", "a", "i", "Object", "String", "Sys", "LThrowable;", "[Throwable", "[LThrowable;", "[I", "I", "N", "throwable", "Throwable ", ";", "\xff"} {
		checkFault(t, kinError, caught("", api.Row{From: 0, To: 2, At: 8, Class: class}))
		// Ahead of: no frame there.
		checkFault(t, kinError, caught("", api.Row{From: 0, To: 2, At: 7, Class: class}))
	}
}

// TestFramesOfRows: there must be one, with just one thing on its stack, where what is caught may stand.
func TestFramesOfRows(t *testing.T) {
	at := func(class, stack string) subject {
		return static("()V", 3, 0, "177, 177", frame(1, "|"+stack)).rows(api.Row{From: 0, To: 1, At: 1, Class: class})
	}
	for _, stack := range []string{"", "LThrowable;,LThrowable;", "N,N", "I,LThrowable;", "LThrowable;,I", "I,J,LThrowable;"} {
		for _, class := range []string{"", "e", "Throwable"} {
			checkFault(t, frameError, at(class, stack))
		}
	}
	checkFault(t, frameError, caught("", api.Row{From: 0, To: 2, At: 9}))
	checkFault(t, frameError, caught("", api.Row{From: 0, To: 2, At: 0}))
	for class, wanted := range map[string]struct{ fits, not []string }{
		"":          {[]string{"LThrowable;", "LObject;"}, []string{"LException;", "Le;", "N", "I", "J", "La;", "[LThrowable;", "LString;"}},
		"Throwable": {[]string{"LThrowable;", "LObject;"}, []string{"LException;", "Le;", "N", "I"}},
		"Exception": {[]string{"LThrowable;", "LObject;", "LException;"}, []string{"Le;", "LZeroFault;", "N"}},
		"e":         {[]string{"Le;", "LException;", "LThrowable;", "LObject;"}, []string{"Le2;", "LZeroFault;", "Li;", "N", "[Le;"}},
		"e2":        {[]string{"Le2;", "Le;", "LException;", "LThrowable;", "LObject;"}, []string{"LMemoryFault;", "La;"}},
	} {
		for _, stack := range wanted.fits {
			checkTaken(t, at(class, stack))
		}
		for _, stack := range wanted.not {
			checkFault(t, typeError, at(class, stack))
		}
	}
}

// TestFirstFaultOfRows: row by row, and in a row as the chapter tells them.
func TestFirstFaultOfRows(t *testing.T) {
	place := api.Row{From: 1, To: 2, At: 8}
	class := api.Row{From: 0, To: 2, At: 8, Class: "z"}
	missing := api.Row{From: 0, To: 2, At: 7}
	misfit := api.Row{From: 0, To: 2, At: 9, Class: "Throwable"}
	s := caught("")
	s.method.Frames = append(s.method.Frames, frame(9, "|Le;"))
	faults := []struct {
		row api.Row
		e   api.Errno
	}{{place, placeError}, {class, kinError}, {missing, frameError}, {misfit, typeError}}
	for _, first := range faults {
		for _, second := range faults {
			checkFault(t, first.e, s.rows(first.row, second.row))
			checkFault(t, first.e, s.rows(api.Row{From: 0, To: 2, At: 8}, first.row, second.row))
		}
	}
	// All of one row.
	checkFault(t, placeError, s.rows(api.Row{From: 0, To: 1, At: 7, Class: "z"}))
	checkFault(t, kinError, s.rows(api.Row{From: 0, To: 2, At: 7, Class: "z"}))
	checkFault(t, kinError, s.rows(api.Row{From: 0, To: 2, At: 9, Class: "a"}))
}

// TestLocalsOfRows: what stands within a row has locals that fit where it leads, at each of its places, and at no other one.
func TestLocalsOfRows(t *testing.T) {
	// Local 1 is an int till 3, a long till 7, then nobody's.
	s := func(locals string, from, to int) subject {
		return of(0, "(I)V", 3, 2, "0, 9, 55 1, 0, 3, 54 1, 0, 177, 87, 177",
			frame(8, "|"), frame(10, locals+"|LThrowable;")).rows(api.Row{From: from, To: to, At: 10})
	}
	places := []int{0, 1, 2, 4, 5, 6, 8, 9}
	ofLocal := map[int]string{0: "I", 1: "I", 2: "I", 4: "J", 5: "J", 6: "J", 8: "", 9: ""}
	for i, from := range places {
		for _, to := range places[i+1:] {
			for _, typ := range []string{"I", "J", "", "N", "LObject;"} {
				fits := true
				for _, place := range places {
					if place >= from && place < to && typ != "" && ofLocal[place] != typ {
						fits = false
					}
				}
				want := api.OK
				if !fits {
					want = typeError
				}
				if e := checkReference(t, familyTree, s(","+typ, from, to)); e != want {
					t.Errorf("%d to %d, %q: %v, want %v", from, to, typ, e, want)
				}
			}
		}
	}
	for locals, want := range map[string]api.Errno{"Lb;": 0, "La;": 0, "Li;": 0, "LObject;": 0, "Ld;": typeError, "N": typeError, "I": typeError} {
		if e := checkReference(t, familyTree, s(locals, 0, 1)); e != want {
			t.Errorf("%q: %v, want %v", locals, e, want)
		}
	}
	// What catches may stand in its own row, and be looked at by it.
	checkTaken(t, s("", 0, 11))
	own := static("(I)V", 1, 1, "177, 3, 54 0, 177", frame(1, "J|")).rows(api.Row{From: 0, To: 1, At: 1})
	checkFault(t, frameError, own)
}
