package check_test

import (
	"math"
	"strings"
	"testing"

	"reglet/api"
)

// wide has instructions at 0, 2, 3, 6, 7, 8 and 9, the one at 7 ends, and three may lie on its stack.
func wide(frames ...api.Frame) subject {
	return static("(IJ)V", 3, 4, "16 1, 87, 17 1, 87, 177, 87, 177", frames...)
}

// straight has no place that needs a frame: at 0, 1 and 2.
func straight(frames ...api.Frame) subject {
	return static("(La;I)V", 3, 3, "1, 87, 177", frames...)
}

func TestFramesThatAreTaken(t *testing.T) {
	checkStates(t, straight(), "La;,I,|", "La;,I,|N", "La;,I,|")
	// What a frame leaves out nobody has.
	checkStates(t, wide(frame(8, "|N")), "I,J,,|", "I,J,,|I", "I,J,,|", "I,J,,|I", "I,J,,|", ",,,|N", ",,,|")
	checkStates(t, wide(frame(0, "I,J|"), frame(2, "I|I"), frame(3, "I,,,|"), frame(6, "|I"), frame(7, "|"), frame(8, ",N,[I|J,La;,N"), frame(9, ",[[La;|J,LObject;")),
		"I,J,,|", "I,,,|I", "I,,,|", ",,,|I", ",,,|", ",N,[I,|J,La;,N", ",[[La;,,|J,LObject;")
	// As many locals, and as many on the stack, as there may be.
	checkTaken(t, wide(frame(8, "J,[I,Li;,N|[[I,N,Lb;")))
	checkTaken(t, static("()V", 20, 40, "177, 177", frame(1, strings.Repeat(",J", 40)[1:]+"|"+strings.Repeat(",N", 20)[1:])))
	checkTaken(t, static("()V", 0, 0, "177, 177", frame(1, "|")))
}

func TestPlacesOfFrames(t *testing.T) {
	for _, place := range []int{1, 4, 5, 10, 11, 4000, -1, -2, math.MinInt, math.MaxInt, math.MinInt32, 1 << 32, 8 + 1<<32} {
		checkFault(t, frameError, wide(frame(place, "|N")))
		checkFault(t, frameError, wide(frame(place, "|N"), frame(8, "|N")))
		checkFault(t, frameError, wide(frame(8, "|N"), frame(place, "|N")))
	}
	// Out of order, and two at one place.
	checkFault(t, frameError, wide(frame(8, "|N"), frame(8, "|N")))
	checkFault(t, frameError, wide(frame(0, "|"), frame(0, "|"), frame(8, "|N")))
	checkFault(t, frameError, wide(frame(8, "|N"), frame(0, "|")))
	checkFault(t, frameError, wide(frame(2, "|I"), frame(0, "|"), frame(8, "|N")))
	checkFault(t, frameError, wide(frame(0, "|"), frame(8, "|N"), frame(7, "|")))
	checkTaken(t, wide(frame(0, "|"), frame(7, "|"), frame(8, "|N")))
}

// TestFramesWithTooMany: one more than the method has, and many more, of types that are wrong as well.
func TestFramesWithTooMany(t *testing.T) {
	for _, text := range []string{",,,,|N", "I,J,,,|N", ",,,,Lz;|N", strings.Repeat(",", 1000) + "|N", "|N,N,N,N", "Lz;|N,N,N,N", "|N,N,N,Lz;", "|" + strings.Repeat("I,", 1000) + "I", ",,,,|N,N,N,N"} {
		checkFault(t, frameError, wide(frame(8, text)))
	}
	checkFault(t, frameError, static("()V", 20, 40, "177, 177", frame(1, strings.Repeat(",", 40)+"|")))
	checkFault(t, frameError, static("()V", 20, 40, "177, 177", frame(1, "|"+strings.Repeat(",N", 21)[1:])))
	checkFault(t, frameError, static("()V", 0, 0, "177, 177", api.Frame{Pc: 1, Locals: []string{""}}))
	checkFault(t, frameError, static("()V", 0, 0, "177, 177", frame(1, "|N")))
}

// unknown are texts that are no types, or those of classes that aren't there.
var unknown = []string{"Lz;", "[Lz;", "[[[[[[[[Lz;", "[[[[[[[[[I", "V", "L", "L;", "[", "[N", "[V", "a", "i", "NN", "La", "La;;", "(I)V", "LLa;;", " I"}

func TestTypesInFrames(t *testing.T) {
	for _, typ := range unknown {
		checkFault(t, kinError, wide(frame(8, typ+"|N")))
		checkFault(t, kinError, wide(frame(8, "I,,,"+typ+"|N")))
		checkFault(t, kinError, wide(frame(8, "|"+typ)))
		checkFault(t, kinError, wide(frame(8, "|I,J,"+typ)))
	}
	for _, typ := range []string{"I", "J", "N", "La;", "Li;", "Lj;", "Lab;", "LObject;", "LSys;", "LDepthFault;", "[I", "[[[[[[[[J", "[[[[[[[[La;"} {
		checkTaken(t, wide(frame(8, "|"+typ)))
		checkTaken(t, wide(frame(8, typ+","+typ+"|"+typ)))
	}
	// On the stack nothing is nobody's.
	for _, stack := range [][]string{{""}, {"", "I"}, {"I", ""}, {"N", "", "N"}} {
		checkFault(t, frameError, wide(api.Frame{Pc: 8, Stack: stack}))
	}
}

// TestFirstFaultOfFrames: frame by frame; of one its place and what it has too many of, then type by type.
func TestFirstFaultOfFrames(t *testing.T) {
	checkFault(t, kinError, wide(frame(8, "Lz;|N"), frame(5, "|")))
	checkFault(t, frameError, wide(frame(5, "|"), frame(8, "Lz;|N")))
	checkFault(t, frameError, wide(frame(5, "Lz;|N")))
	checkFault(t, frameError, wide(frame(0, "|"), frame(0, "Lz;|")))
	checkFault(t, kinError, wide(api.Frame{Pc: 8, Locals: []string{"Lz;"}, Stack: []string{""}}))
	checkFault(t, kinError, wide(api.Frame{Pc: 8, Locals: []string{"", "", "", "Lz;"}, Stack: []string{"I", ""}}))
	checkFault(t, kinError, wide(api.Frame{Pc: 8, Stack: []string{"Lz;", ""}}))
	checkFault(t, frameError, wide(api.Frame{Pc: 8, Stack: []string{"", "Lz;"}}))
	checkFault(t, frameError, wide(api.Frame{Pc: 8, Stack: []string{"I", "", "Lz;"}}))
}

// TestStatesFitTheirFrames, in their locals and on their stack.
func TestStatesFitTheirFrames(t *testing.T) {
	// Ahead of the frame at 1: a local of class b, an int, a long, nobody's; nothing on the stack, or what place 0 lays there.
	at := func(push, text string) subject {
		return of(0, "(IJ)V", 2, 4, push+", 87, 177", frame(1, text))
	}
	for _, locals := range []string{"", "Lb;", "La;", "Li;", "Lj;", "LObject;", "Lb;,I,J,", ",I", ",,J", "LObject;,,J"} {
		checkTaken(t, at("1", locals+"|N"))
		checkTaken(t, at("1", locals+"|[[I"))
		checkTaken(t, at("1", locals+"|Le;"))
		checkTaken(t, at("3", locals+"|I"))
		checkTaken(t, at("9", locals+"|J"))
		for _, stack := range []string{"", "I", "J", "N,N", "N,I"} {
			checkFault(t, typeError, at("1", locals+"|"+stack))
		}
		for _, stack := range []string{"", "J", "N", "La;", "I,I", "[I"} {
			checkFault(t, typeError, at("3", locals+"|"+stack))
		}
	}
	for _, locals := range []string{"Ld;", "Lab;", "LString;", "N", "I", "[Lb;", "Lb;,J", "Lb;,N", "Lb;,I,I", ",,,I", ",,,N", ",,,LObject;", "I,Lb;"} {
		checkFault(t, typeError, at("1", locals+"|N"))
	}
	// At the first place too.
	checkFault(t, typeError, of(0, "()V", 1, 1, "177", frame(0, "Ld;|")))
	checkFault(t, typeError, of(0, "()V", 1, 1, "177", frame(0, "|N")))
	checkTaken(t, of(0, "()V", 1, 1, "177", frame(0, "|")))
}

// TestFrameIsTheState: what is behind goes by the frame, not by what fitted it.
func TestFrameIsTheState(t *testing.T) {
	checkFault(t, typeError, of(0, "(I)I", 1, 2, "21 1, 172", frame(0, "Lb;|")))
	checkTaken(t, of(0, "(I)I", 1, 2, "21 1, 172", frame(0, ",I|")))
	checkFault(t, memberError, of(0, "()V", 1, 1, "25 0, 182 method:b.nowhere:()V, 177", frame(2, "|LObject;")))
	checkFault(t, typeError, of(0, "()V", 1, 1, "25 0, 182 method:b.mine:()V, 177", frame(2, "|La;")))
	checkTaken(t, of(0, "()V", 1, 1, "25 0, 182 method:b.mine:()V, 177", frame(2, "|Lb;")))
	// Nothing, held to be a thing, is one.
	checkFault(t, typeError, static("()[La;", 1, 1, "1, 176", frame(1, "|LObject;")))
	checkTaken(t, static("()[La;", 1, 1, "1, 176", frame(1, "|[Lb;")))
}

// TestBehindWhatEnds stands a frame, or nothing may stand.
func TestBehindWhatEnds(t *testing.T) {
	for d, text := range map[string]string{"()I": "3, 172", "()J": "9, 173", "()LObject;": "1, 176", "()V": "0, 177", "()[I": "1, 191", "()[J": "0, 167 @0"} {
		s := static(d, 1, 1, text, frame(0, "|"))
		checkTaken(t, s)
		length := len(s.method.Code)
		behind := static(d, 1, 1, text+", 0, 167 @0", frame(0, "|"))
		checkFault(t, frameError, behind)
		for _, c := range []struct {
			text string
			e    api.Errno
		}{{"|", api.OK}, {"I|", api.OK}, {"[Lb;|", api.OK}, {"|I", typeError}, {"|N", typeError}} {
			behind.method.Frames = []api.Frame{frame(0, "|"), frame(length, c.text)}
			if e := checkReference(t, familyTree, behind); e != c.e {
				t.Errorf("%s behind %s: %v, want %v", c.text, text, e, c.e)
			}
			// One place later it is too late.
			behind.method.Frames[1].Pc++
			checkFault(t, frameError, behind)
		}
	}
	// Behind what leads but doesn't end, all goes on.
	checkStates(t, static("(I)V", 1, 1, "3, 153 @0, 177", frame(0, "I|")), "I|", "I|I", "I|")
}

// TestWays lead to a frame: there, back, and to themselves.
func TestWays(t *testing.T) {
	for _, way := range []struct{ push, code string }{
		{"3", "153"}, {"3", "158"}, {"3, 3", "159"}, {"3, 3", "164"}, {"1, 1", "165"}, {"1, 1", "166"}, {"1", "198"}, {"1", "199"}, {"0", "167"},
	} {
		length := strings.Count(way.push, ",") + 1
		there := length + 4
		forward := func(frames ...api.Frame) subject {
			return static("(I)V", 3, 2, way.push+", "+way.code+" @"+itoa(there)+", 177, 177", frames...)
		}
		behind := frame(length+3, "I|")
		checkTaken(t, forward(behind, frame(there, "I|")))
		checkTaken(t, forward(behind, frame(there, "|")))
		checkFault(t, frameError, forward(behind))
		for _, text := range []string{"J|", "I,I|", "|N", "|I", "N|"} {
			checkFault(t, typeError, forward(behind, frame(there, text)))
		}
		back := func(push string, frames ...api.Frame) subject {
			return static("(I)V", 3, 2, "0, "+push+", "+way.code+" @1, 177", frames...)
		}
		checkTaken(t, back(way.push, frame(1, "I|"), frame(length+4, "|")))
		checkFault(t, frameError, back(way.push, frame(0, "I|"), frame(length+4, "|")))
		// Local 0 isn't an int any more, or one lies on the stack.
		checkFault(t, typeError, back("9, 55 0, "+way.push, frame(1, "I|"), frame(length+7, "|")))
		checkFault(t, typeError, back("9, "+way.push, frame(1, "I|"), frame(length+5, "|J")))
		// To itself: what it takes is gone then, so that it doesn't fit its own frame.
		itself := func(frames ...api.Frame) subject {
			return static("(I)V", 3, 2, way.push+", "+way.code+" @"+itoa(length)+", 177", append(frames, frame(length+3, "|"))...)
		}
		checkFault(t, frameError, itself())
		switch way.push {
		case "3":
			checkFault(t, typeError, itself(frame(length, "|I")))
		case "1":
			checkFault(t, typeError, itself(frame(length, "|N")))
		case "0":
			checkTaken(t, itself(frame(length, "|")))
		}
	}
	checkTaken(t, static("()V", 0, 0, "167 @0", frame(0, "|")))
	checkFault(t, frameError, static("()V", 0, 0, "167 @0"))
	checkFault(t, typeError, static("()V", 1, 0, "3, 153 @1, 177", frame(1, "|I")))
	// The next place needs a frame, too, if one is led to it.
	checkFault(t, frameError, static("()V", 1, 0, "3, 153 @4, 177"))
	checkTaken(t, static("()V", 1, 0, "3, 153 @4, 177", frame(4, "|")))
	// No place at all is layer 6's to tell.
	lost := static("()V", -1, 0, "167 @0").with(func(s *subject) { s.method.Code[2] = 1 })
	checkFault(t, placeError, lost)
}
