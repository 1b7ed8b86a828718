package lower_test

import (
	"fmt"
	"math"
	"strings"
	"testing"
)

// sampleOf is an argument of a kind, and its text.
func sampleOf(kind, which int) (argument, string) {
	switch kind {
	case 1:
		return 70 + which, fmt.Sprint(70 + which)
	case 2:
		return int64(math.MaxInt64 - which), fmt.Sprint(math.MaxInt64-which) + "L"
	}
	name := fmt.Sprint("it", which)
	return func(m *machine) any { return m.object(name, "a") }, name
}

// writers write what lies uppermost to a static of its kind.
var writers = []string{"", "179 field:a.i:I", "179 field:a.j:J", "179 field:a.r:La;"}

// turning is a class whose statics tell what lies on the stack.
func turning() *told { return class("a: static i I, static j J, static r La;") }

// TestTurns: 87, 89, 90 and 95, over each kind, by itself and above others.
func TestTurns(t *testing.T) {
	c := turning()
	type try struct {
		method string
		args   []argument
		done   []string
	}
	var tries []try
	for below := range 2 {
		for first := 1; first <= 3; first++ {
			for second := 1; second <= 3; second++ {
				for _, turn := range []struct {
					code int
					// What lies there then, the lowest first: 1 is the first of the two, 2 the uppermost.
					left []int
				}{{87, []int{1}}, {89, []int{1, 2, 2}}, {90, []int{2, 1, 2}}, {95, []int{2, 1}}} {
					kinds := []int{0, first, second}
					name := fmt.Sprintf("f%d_%d_%d_%d", below, first, second, turn.code)
					text := strings.Repeat("8, ", below) + fmt.Sprintf("%d 0, %d 1, %d", loads[first], loads[second], turn.code)
					var done []string
					a, firstText := sampleOf(first, 1)
					b, secondText := sampleOf(second, 2)
					for i := len(turn.left) - 1; i >= 0; i-- {
						text += ", " + writers[kinds[turn.left[i]]]
						done = append(done, fmt.Sprintf("static %d is %s", kinds[turn.left[i]]-1, []string{"", firstText, secondText}[turn.left[i]]))
					}
					for range below {
						text += ", " + writers[1]
						done = append(done, "static 0 is 5")
					}
					d := fmt.Sprintf("(%s%s)V", letters[first], letters[second])
					// The stack has just the places that are needed.
					c.with(fmt.Sprintf("static %s %s %d/2", name, d, below+max(2, len(turn.left))), text+", 177")
					tries = append(tries, try{"a." + name + d, with(a, b), done})
				}
			}
		}
	}
	if len(tries) != 2*9*4 {
		t.Fatal(len(tries))
	}
	p := linked(t, c)
	for _, try := range tries {
		p.ends(t, try.method, try.args, "returns", try.done...)
	}
}

// TestTurnsAgain: many of them, one behind the other.
func TestTurnsAgain(t *testing.T) {
	p := linked(t, turning().
		with("static f (II)I", "21 0, 21 1, 95, 90, 95, 100, 95, 87, 172").
		with("static g (IJ)J", "21 0, 22 1, 95, 95, 95, 87, 89, 97, 173").
		with("static h (JI)J", "22 0, 21 1, 90, 121, 95, 133, 101, 173"))
	// 1, 2: 2, 1: 1, 2, 1: 1, 1, 2: 1, -1: -1, 1: -1.
	p.ends(t, "a.f(II)I", with(1, 2), "returns -1")
	// 7, x: x, 7: 7, x: x, 7: x: 2 x.
	p.ends(t, "a.g(IJ)J", with(7, int64(21)), "returns 42L")
	// x, 3: 3, x, 3: 3, 8 x: 8 x, 3: 8 x - 3.
	p.ends(t, "a.h(JI)J", with(int64(5), 3), "returns 37L")
}

// TestOtherKinds: a local, or a place of the stack, is an int on one way and a reference, or a long, on another.
func TestOtherKinds(t *testing.T) {
	c := turning()
	for first := 1; first <= 3; first++ {
		for second := 1; second <= 3; second++ {
			text := fmt.Sprintf("21 0, 153 @other, %d 1, %d 3, %d 3, %s, 167 @on, other: %d 2, %d 3, %d 3, %s, on: 177", loads[first], stores[first], loads[first], writers[first], loads[second], stores[second], loads[second], writers[second])
			c.with(fmt.Sprintf("static f%d%d (I%s%s)V 2/4", first, second, letters[first], letters[second]), text, fmt.Sprintf("frame other I,%s,%s|", letters[first], letters[second]), "frame on |")
			// In one row: each kind where the other one was.
			text = fmt.Sprintf("%d 0, %d 2, %d 1, %d 3, %d 2, %d 3, %d 3, %s, %d 1, %d 3, %d 3, %s, 177", loads[first], stores[first], loads[second], stores[second], loads[first], stores[first], loads[first], writers[first], loads[second], stores[second], loads[second], writers[second])
			c.with(fmt.Sprintf("static g%d%d (%s%s)V 1/4", first, second, letters[first], letters[second]), text)
		}
	}
	p := linked(t, c)
	for first := 1; first <= 3; first++ {
		for second := 1; second <= 3; second++ {
			a, firstText := sampleOf(first, 1)
			b, secondText := sampleOf(second, 2)
			method := fmt.Sprintf("a.f%d%d(I%s%s)V", first, second, letters[first], letters[second])
			firstDone, secondDone := fmt.Sprintf("static %d is %s", first-1, firstText), fmt.Sprintf("static %d is %s", second-1, secondText)
			p.ends(t, method, with(1, a, b), "returns", firstDone)
			p.ends(t, method, with(0, a, b), "returns", secondDone)
			p.ends(t, fmt.Sprintf("a.g%d%d(%s%s)V", first, second, letters[first], letters[second]), with(a, b), "returns", firstDone, secondDone)
		}
	}
}

// TestKindsOfOneLocal: what a local was of another kind is not what it is, even if it is that kind again.
func TestKindsOfOneLocal(t *testing.T) {
	p := linked(t, turning().with("static f (IJ)I 5/3",
		"again: 21 0, 153 @done, 22 1, 136, 54 2, 132 2 1, 21 2, 179 field:a.i:I, 187 class:a, 58 2, 25 2, 179 field:a.r:La;, 22 1, 10, 97, 55 1, 132 0 -1, 167 @again, done: 3, 172",
		"frame again I,J,|", "frame done I,J|"))
	p.ends(t, "a.f(IJ)I", with(2, int64(40)), "returns 0", "static 0 is 41", "makes #1 a 0", "static 2 is #1", "static 0 is 42", "makes #2 a 0", "static 2 is #2")
}

// TestCircle: locals that are read and written again in a circle, of each kind.
func TestCircle(t *testing.T) {
	p := linked(t, class("a: next La;, n I").
		with("static sum (I)J 4/4", "9, 55 1, again: 21 0, 158 @done, 22 1, 21 0, 133, 97, 55 1, 132 0 -1, 167 @again, done: 22 1, 173", "frame again I,J|", "frame done I,J|").
		with("static list (I)La; 4/4", "1, 58 1, again: 21 0, 158 @done, 187 class:a, 89, 58 2, 25 1, 181 field:a.next:La;, 25 2, 21 0, 181 field:a.n:I, 25 2, 58 1, 132 0 -1, 167 @again, done: 25 1, 176", "frame again I,La;|", "frame done I,La;|").
		with("static add (La;)I 4/4", "3, 54 1, again: 25 0, 198 @done, 25 0, 180 field:a.n:I, 21 1, 96, 54 1, 25 0, 180 field:a.next:La;, 58 0, 167 @again, done: 21 1, 172", "frame again La;,I|", "frame done La;,I|").
		with("static both (I)I", "21 0, 184 method:a.list:(I)La;, 184 method:a.add:(La;)I, 172").
		// Two locals change places again and again.
		with("static turn (III)I", "again: 21 2, 158 @done, 21 0, 21 1, 54 0, 54 1, 132 2 -1, 167 @again, done: 21 0, 21 1, 100, 172", "frame again I,I,I|", "frame done I,I,I|"))
	p.ends(t, "a.sum(I)J", with(100), "returns 5050L")
	p.ends(t, "a.sum(I)J", with(0), "returns 0L")
	p.ends(t, "a.both(I)I", with(40), "returns 820")
	p.ends(t, "a.both(I)I", with(0), "returns 0")
	p.ends(t, "a.turn(III)I", with(9, 4, 6), "returns 5")
	p.ends(t, "a.turn(III)I", with(9, 4, 7), "returns -5")
}

// TestMeetings: ways that meet with something on the stack, of each kind, by itself and by being led to.
func TestMeetings(t *testing.T) {
	c := turning()
	for kind := 1; kind <= 3; kind++ {
		l := letters[kind]
		c.with(fmt.Sprintf("static f%d (I%s%s)V 3/3", kind, l, l),
			fmt.Sprintf("8, 21 0, 153 @other, %d 1, 167 @on, other: %d 2, on: %s, %s, 177", loads[kind], loads[kind], writers[kind], writers[1]),
			fmt.Sprintf("frame other I,%s,%s|I", l, l), fmt.Sprintf("frame on I|I,%s", l))
	}
	// The uppermost one stays where it is while a circle goes round; what lies there is nothing on one way and a thing, of two classes, on others.
	c.with("static round (I)I 4/2", "3, again: 21 0, 158 @done, 21 0, 96, 132 0 -1, 167 @again, done: 172", "frame again I|I", "frame done I|I")
	c.with("static refs (I)LObject; 4/2", "21 0, 153 @none, 21 0, 158 @array, 187 class:a, 167 @on, none: 1, 167 @on, array: 4, 188 10, on: 176", "frame none I|", "frame array I|", "frame on |LObject;")
	p := linked(t, c)
	for kind := 1; kind <= 3; kind++ {
		a, firstText := sampleOf(kind, 1)
		b, secondText := sampleOf(kind, 2)
		method := fmt.Sprintf("a.f%d(I%s%s)V", kind, letters[kind], letters[kind])
		p.ends(t, method, with(1, a, b), "returns", fmt.Sprintf("static %d is %s", kind-1, firstText), "static 0 is 5")
		p.ends(t, method, with(0, a, b), "returns", fmt.Sprintf("static %d is %s", kind-1, secondText), "static 0 is 5")
	}
	p.ends(t, "a.round(I)I", with(10), "returns 55")
	p.ends(t, "a.refs(I)LObject;", with(0), "returns nothing")
	p.ends(t, "a.refs(I)LObject;", with(1), "returns #1", "makes #1 a 0")
	p.ends(t, "a.refs(I)LObject;", with(-1), "returns #1", "makes #1 [I 1")
}

// TestUnreached: code to which nobody comes is there, whatever it would do, and changes nothing.
func TestUnreached(t *testing.T) {
	p := linked(t, turning().
		with("static f (I)I 4/4", "21 0, 172, odd: 96, 54 3, 25 2, 58 1, 22 0, 87, 1, 3, 46, 172, dead: 87, 8, 172", "frame odd J,,La;|I,I", "frame dead |J").
		with("static g ()V", "177, self: 167 @self", "frame self |J,I"))
	p.ends(t, "a.f(I)I", with(3), "returns 3")
	p.ends(t, "a.g()V", nil, "returns")
}
