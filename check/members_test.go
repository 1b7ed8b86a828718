package check_test

import (
	"slices"
	"strings"
	"testing"

	"reglet/api"
)

// pooledCodes are the instructions that name a constant: the kinds that it may be of.
var pooledCodes = map[int][]int{
	19: {3, 5, 8}, 178: {9}, 179: {9}, 180: {9}, 181: {9}, 182: {10}, 183: {10}, 184: {10}, 185: {11}, 187: {7}, 189: {7}, 192: {7}, 193: {7},
}

// TestConstantsThatArent there, or are of another kind: that is told ahead of all else that is wrong with the instruction.
func TestConstantsThatArent(t *testing.T) {
	for c, kinds := range pooledCodes {
		for _, n := range []int{0, 2, 3, 255, 256, 32767, 32768, 65535} {
			s := doing(0, "", "", itoa(c)+" #"+itoa(n))
			s.class.Pool = []api.Const{{Kind: kinds[0]}, {Kind: kinds[0]}}
			checkFault(t, constError, s)
			s.class.Pool = s.class.Pool[:n%2]
			checkFault(t, constError, s)
			s.class.Pool = nil
			checkFault(t, constError, s)
		}
		for kind := -2; kind < 20; kind++ {
			s := doing(0, "", "", itoa(c)+" #1")
			s.class.Pool = []api.Const{{}, {Kind: kind}}
			if !slices.Contains(kinds, kind) {
				checkFault(t, constError, s)
			} else if e := checkReference(t, familyTree, s); e == constError || e == api.OK {
				t.Errorf("constant of kind %d for %d: %v", kind, c, e)
			}
		}
	}
}

// TestIntsThatDontFit are refused as constants; longs are not.
func TestIntsThatDontFit(t *testing.T) {
	for _, n := range []string{"2147483648", "-2147483649", "4294967295", "4294967296", "9223372036854775807", "-9223372036854775808"} {
		checkFault(t, constError, doing(1, "", "", "19 int:"+n))
		// Ahead of: no room for it.
		checkFault(t, constError, doing(0, "", "", "19 int:"+n))
		checkLeft(t, doing(1, "", "", "19 long:"+n), ",,,,,|J")
	}
	checkFault(t, stackError, doing(0, "", "", "19 int:2147483647"))
	// Of a string its number is nobody's.
	s := doing(1, "", "", "19 #1")
	s.class.Pool = []api.Const{{}, {Kind: 8, Text: "x", Num: 1 << 40}}
	checkLeft(t, s, ",,,,,|LString;")
}

// checkMember: with nothing on the stack, an instruction that names a member answers that.
func checkMember(t *testing.T, want api.Errno, text string) {
	t.Helper()
	checkFault(t, want, doing(20, "", "", text))
}

func TestFieldsThatArent(t *testing.T) {
	for _, object := range []string{"180 ", "181 "} {
		for _, f := range []string{
			// Of no class, no name, no such type, of an interface, of one's own below.
			"z.x:I", "a.z:I", "a.x:J", "a.x:Lz;", "i.x:I", "a.own:Lb;", "Object.x:I", "String.x:I", "La;.x:I", ".x:I", "[I.x:I", "[La;.x:I", "a.:I", "a.x:", "a.f:()V", "a.i:si",
			// Static ones.
			"a.sx:I", "b.sl:J", "d.sr:La;", "a.su:[Lz;", "i.si:I",
		} {
			checkMember(t, memberError, object+"field:"+f)
		}
	}
	for _, static := range []string{"178 ", "179 "} {
		for _, f := range []string{
			"z.sx:I", "a.z:I", "a.sx:J", "j.si:I", "a.si:I", "b.si:I", "Sys.out:I", "La;.sx:I", ".sx:I", "[La;.sx:I", "a.sv:()V",
			// Of objects.
			"a.x:I", "b.x:J", "d.r:La;", "a.u:Lz;", "b.own:Lb;",
		} {
			checkMember(t, memberError, static+"field:"+f)
		}
	}
}

// TestFieldsLeadUp: to the class, its parent and on; of one name several may lie there by their types.
func TestFieldsLeadUp(t *testing.T) {
	for _, class := range []string{"a", "b", "d", "ab"} {
		checkLeft(t, doing(1, "", "N", "180 field:"+class+".x:I"), ",,,,,|I")
		checkLeft(t, doing(1, "", "", "178 field:"+class+".sx:I"), ",,,,,|I")
		checkLeft(t, doing(1, "", "L"+class+";", "180 field:"+class+".l:J"), ",,,,,|J")
		checkLeft(t, doing(2, "", "Ld;,N", "181 field:a.r:La;"), ",,,,,|")
	}
	for _, class := range []string{"b", "d"} {
		checkLeft(t, doing(1, "", "Ld;", "180 field:"+class+".x:J"), ",,,,,|J")
	}
	// What lies on the stack must fit the class that is named, not the one that has the field.
	checkFault(t, typeError, doing(1, "", "La;", "180 field:b.x:I"))
	checkFault(t, typeError, doing(2, "", "La;,I", "181 field:d.x:I"))
}

// TestFieldsOfUnknownTypes are refused ahead of what lies on the stack.
func TestFieldsOfUnknownTypes(t *testing.T) {
	for _, text := range []string{"180 field:a.u:Lz;", "181 field:b.u:Lz;", "178 field:a.su:[Lz;", "179 field:d.su:[Lz;", "180 field:a.v:V", "181 field:a.v:V"} {
		checkFault(t, kinError, doing(2, "", "", text))
		checkFault(t, kinError, doing(2, "", "I", text))
		checkFault(t, kinError, doing(2, "", "La;,N", text))
	}
}

func TestMethodsThatArent(t *testing.T) {
	calls := map[string][]string{
		"182 method:": {
			"z.f:()V", "a.z:()V", "a.f:()I", "a.f:(I)V", "a.mine:()V", "a.k:(ILi;)J", "Object.f:()V", "La;.f:()V", "[La;.f:()V", ".f:()V", "a.x:I", "Sys.length:()I",
			// Of an interface, static.
			"i.h:()V", "j.k:(ILi;)J", "j.h:()V", "io.h:()V", "i.z:()V", "a.sv:()V", "b.sf:(IJ)I", "Sys.print:(I)V", "ab.sp:()V", "b.sk:()V",
		},
		"183 method:": {
			"z.f:()V", "a.z:()V", "a.f:()I", "i.h:()V", "j.k:(ILi;)J", "a.sv:()V", "Sys.exit:(I)V", "b.sk:()V", "La;.f:()V", "[La;.f:()V",
			// Abstract.
			"b.lack:()V", "ab.q:()V", "a.only:()I", "b.k:(ILi;)J",
			// Of a class that doesn't stand above b.
			"d.f:()V", "ab.f:()V", "ab.p:()V", "String.length:()I", "d.mine:()V",
		},
		"184 method:": {
			"z.sv:()V", "a.z:()V", "a.sv:()I", "a.sp:()V", "Sys.print:()V", "Sys.print:(La;)V", "Object.sv:()V", "La;.sv:()V", "[La;.sv:()V",
			// Of an interface, of objects.
			"j.sk:()V", "i.h:()V", "a.f:()V", "b.h:()V", "String.length:()I", "ab.q:()V",
		},
		"185 iface:": {
			"z.h:()V", "i.z:()V", "i.h:()I", "i.k:(ILi;)J", "Li;.h:()V", "[Li;.h:()V", ".h:()V",
			// Of no interface, static.
			"a.h:()V", "b.k:(ILi;)J", "Object.h:()V", "String.length:()I", "j.sk:()V", "a.sv:()V",
		},
	}
	for call, methods := range calls {
		for _, m := range methods {
			checkMember(t, memberError, call+m)
			checkFault(t, memberError, doing(20, "", "I,J,N,I", call+m))
		}
	}
}

// TestMethodsLeadUp: to the class, its parents, and then to its interfaces; a static one by them, too.
func TestMethodsLeadUp(t *testing.T) {
	for _, class := range []string{"a", "b", "d", "ab"} {
		typ := "L" + class + ";"
		checkLeft(t, doing(1, "", typ, "182 method:"+class+".f:()V"), ",,,,,|")
		checkLeft(t, doing(1, "", typ, "182 method:"+class+".only:()I"), ",,,,,|I")
		checkLeft(t, doing(1, "", "", "184 method:"+class+".sv:()V"), ",,,,,|")
		checkLeft(t, doing(1, "", typ, "185 iface:i.only:()I"), ",,,,,|I")
	}
	checkLeft(t, doing(3, "", "Ld;,I,La;", "182 method:d.k:(ILi;)J"), ",,,,,|J")
	checkLeft(t, doing(3, "", "Ld;,I,La;", "185 iface:j.k:(ILi;)J"), ",,,,,|J")
	checkLeft(t, doing(0, "", "", "184 method:d.sk:()V"), ",,,,,|")
	checkLeft(t, doing(1, "", "Lio;", "185 iface:io.h:()V"), ",,,,,|")
	checkFault(t, typeError, doing(1, "", "La;", "182 method:b.f:()V"))
	checkFault(t, typeError, doing(3, "", "La;,I,La;", "185 iface:j.k:(ILi;)J"))
	checkFault(t, typeError, doing(1, "", "LObject;", "185 iface:i.h:()V"))
}

// TestJustThatMethod: what calls just the method wants c's own type on the stack, not the class's.
func TestJustThatMethod(t *testing.T) {
	for _, c := range []struct {
		class, text, stack string
		e                  api.Errno
	}{
		{"b", "183 method:a.f:()V", "Lb;", api.OK}, {"b", "183 method:a.f:()V", "Ld;", api.OK}, {"b", "183 method:a.f:()V", "N", api.OK}, {"b", "183 method:a.f:()V", "La;", typeError}, {"b", "183 method:a.f:()V", "", stackError},
		{"a", "183 method:a.f:()V", "La;", api.OK}, {"a", "183 method:a.f:()V", "Lb;", api.OK}, {"a", "183 method:b.f:()V", "Lb;", memberError}, {"d", "183 method:a.f:()V", "Lb;", typeError}, {"d", "183 method:b.f:()V", "Ld;", api.OK},
		{"ab", "183 method:ab.p:()V", "Lab;", api.OK}, {"ab", "183 method:ab.q:()V", "Lab;", memberError}, {"z", "183 method:a.f:()V", "La;", memberError}, {"Object", "183 method:a.f:()V", "La;", memberError},
		{"String", "183 method:String.length:()I", "LString;", api.OK}, {"[La;", "183 method:Object.f:()V", "N", memberError},
	} {
		s := doing(1, "", c.stack, c.text)
		s.class.Name = c.class
		if e := checkReference(t, familyTree, s); e != c.e {
			t.Errorf("%+v: %v", c, e)
		}
	}
}

// TestUnknownTypesOfMethods: of the parameters each is asked for ahead of its being popped, the last one first; what is given back behind all.
func TestUnknownTypesOfMethods(t *testing.T) {
	full := strings.Repeat(",J", 20)[1:]
	for _, c := range []struct {
		text, stack string
		e           api.Errno
	}{
		{"182 method:a.uf:(ILz;J)V", "", stackError},
		{"182 method:a.uf:(ILz;J)V", "I", typeError},
		{"182 method:a.uf:(ILz;J)V", "J", kinError},
		{"182 method:a.uf:(ILz;J)V", "La;,I,N,J", kinError},
		{"182 method:a.uf:(ILz;J)V", "J,J,J,J", kinError},
		{"184 method:a.suf:(Lz;)V", "", kinError},
		{"184 method:a.suf:(Lz;)V", "N", kinError},
		{"185 iface:j.uk:(Lz;)V", "", kinError},
		{"182 method:a.ug:()Lz;", "", stackError},
		{"182 method:a.ug:()Lz;", "I", typeError},
		{"182 method:a.ug:()Lz;", "La;", kinError},
		{"183 method:a.ug:()Lz;", "La;", typeError},
		{"183 method:a.ug:()Lz;", "Lb;", kinError},
		{"184 method:a.sug:()Lz;", "", kinError},
		{"184 method:a.sug:()Lz;", full, kinError},
		// A descriptor that is none has no parameters, and gives back what nobody knows.
		{"182 method:a.odd:(I", "", stackError},
		{"182 method:a.odd:(I", "I", typeError},
		{"182 method:a.odd:(I", "La;", kinError},
		{"184 method:a.sodd:", "", kinError},
	} {
		if e := checkReference(t, familyTree, doing(20, "", c.stack, c.text)); e != c.e {
			t.Errorf("%+v: %v", c, e)
		}
	}
}

// TestManyParameters: there is no room for an object below twenty of them, but below nineteen.
func TestManyParameters(t *testing.T) {
	many, nearly := "182 method:a.many:("+twentyInts+")V", "182 method:a.nearly:("+twentyInts[1:]+")V"
	nineteen := strings.Repeat(",I", 19)
	checkFault(t, stackError, doing(20, "", "I"+nineteen, many))
	checkFault(t, stackError, doing(20, "", nineteen[1:], many))
	checkFault(t, typeError, doing(20, "", "La;"+nineteen, many))
	checkLeft(t, doing(20, "", "La;"+nineteen, nearly), ",,,,,|")
	checkFault(t, typeError, doing(20, "", "I"+nineteen, nearly))
	checkFault(t, typeError, doing(20, "", "La;,J"+nineteen[2:], nearly))
	checkFault(t, typeError, doing(20, "", "La;"+nineteen[2:]+",J", nearly))
}

func TestClassesThatArentMade(t *testing.T) {
	for _, name := range []string{"z", "", "i", "j", "io", "ab", "String", "Sys", "[I", "[La;", "La;", "I", "N", "object", "a ", "\xff"} {
		checkFault(t, kinError, doing(1, "", "", "187 #1").with(func(s *subject) { s.class.Pool = []api.Const{{}, {Kind: 7, Text: name}} }))
		// Ahead of: no room for it.
		checkFault(t, kinError, doing(0, "", "", "187 #1").with(func(s *subject) { s.class.Pool = []api.Const{{}, {Kind: 7, Text: name}} }))
	}
	checkFault(t, stackError, doing(0, "", "", "187 class:a"))
}

// TestTypesThatArentKnown, of those that constants of classes name; they are told ahead of what lies on the stack.
func TestTypesThatArentKnown(t *testing.T) {
	for _, name := range []string{"z", "", "La;", "[z", "[", "[Lz;", "[V", "[N", "[[[[[[[[[I", "[[[[[[[[[La;", "a ", "\xff"} {
		for _, code := range []string{"189", "192", "193"} {
			for _, stack := range []string{"", "I", "J", "La;"} {
				s := doing(1, "", stack, code+" #1")
				s.class.Pool = []api.Const{{}, {Kind: 7, Text: name}}
				checkFault(t, kinError, s)
			}
		}
	}
	// Eight [ are the most: the array of such ones is no type.
	for _, name := range []string{"[[[[[[[[I", "[[[[[[[[J", "[[[[[[[[La;"} {
		checkFault(t, kinError, doing(1, "", "I", "189 class:"+name))
		checkFault(t, kinError, doing(1, "", "", "189 class:"+name))
		checkLeft(t, doing(1, "", "N", "192 class:"+name), ",,,,,|"+name)
		checkLeft(t, doing(1, "", "N", "193 class:"+name), ",,,,,|I")
	}
}

// TestArraysOfNumbers: of ints and longs alone, told ahead of what lies on the stack.
func TestArraysOfNumbers(t *testing.T) {
	for a := range 256 {
		if a == 10 || a == 11 {
			continue
		}
		checkFault(t, typeError, doing(1, "", "I", "188 "+itoa(a)))
		checkFault(t, typeError, doing(1, "", "", "188 "+itoa(a)))
	}
	checkFault(t, stackError, doing(1, "", "", "188 10"))
	checkFault(t, typeError, doing(1, "", "J", "188 11"))
}

// TestOneKindForAnother: a class's constant isn't one of a string, and so on.
func TestOneKindForAnother(t *testing.T) {
	for _, text := range []string{"19 class:a", "19 text:hi", "19 field:a.x:I", "187 string:a", "187 text:a", "189 text:a", "192 string:a", "193 field:a.x:I", "180 method:a.x:I", "178 class:a", "182 iface:a.f:()V", "183 iface:a.f:()V", "184 iface:a.sv:()V", "185 method:i.h:()V", "182 field:a.f:()V", "184 field:a.sv:()V"} {
		checkFault(t, constError, doing(5, "", "Lb;,I", text))
	}
}
