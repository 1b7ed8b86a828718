package file_test

import (
	"encoding/binary"
	"math/rand"
	"slices"
	"strings"
	"testing"

	"reglet/api"
	"reglet/desc"
	"reglet/file"
	"reglet/pool"
)

// The reference has a list of what is still to come, cuts the bytes of the next thing off, and lets it judge them and lay what comes then in front of the list: so it shares no way of going through a file with the package.

// A step is the next thing: how many bytes it has, and what is to be done with them.
type step struct {
	width int
	do    func(b []byte)
}

// A reference is a class that is half read.
type reference struct {
	consts []api.Const
	class  api.Class
	todo   []step
	fault  api.Errno
}

// wrong tells a fault, if it is one: none but the first counts.
func (r *reference) wrong(is bool, e api.Errno) {
	if is && r.fault == api.OK {
		r.fault = e
	}
}

// run does all steps, till a fault is met.
func (r *reference) run(b []byte) {
	for len(r.todo) > 0 && r.fault == api.OK {
		s := r.todo[0]
		r.todo = r.todo[1:]
		if len(b) < s.width {
			r.fault = api.ErrEnd
			return
		}
		s.do(b[:s.width])
		b = b[s.width:]
	}
	r.wrong(len(b) > 0, api.ErrEnd)
}

// next lays steps in front of all others.
func (r *reference) next(steps ...step) { r.todo = append(steps, r.todo...) }

// number is a step for a number of so many bytes.
func number(width int, do func(n int)) step {
	return step{width, func(b []byte) {
		if width == 1 {
			do(int(b[0]))
			return
		}
		do(int(binary.BigEndian.Uint16(b)))
	}}
}

// count is a step for a count, and as often the steps of one of them.
func (r *reference) count(width, most int, steps func() []step) step {
	return number(width, func(n int) {
		r.wrong(n > most, api.ErrLong)
		var all []step
		for range min(n, most) {
			all = append(all, steps()...)
		}
		r.next(all...)
	})
}

// constant is a step for the number of a constant of that kind.
func (r *reference) constant(kind int, do func(s string)) step {
	return number(2, func(n int) {
		if n == 0 || n >= len(r.consts) || r.consts[n].Kind != kind {
			r.wrong(true, api.ErrConst)
			return
		}
		do(r.consts[n].Text)
	})
}

// className is a step for a class that is no array.
func (r *reference) className(do func(s string)) step {
	return r.constant(7, func(s string) {
		r.wrong(strings.HasPrefix(s, "["), api.ErrName)
		do(s)
	})
}

// members are a class's steps behind its flags.
func (r *reference) members() []step {
	c := &r.class
	return []step{
		r.className(func(s string) { c.Name = s }),
		r.className(func(s string) { c.Super = s }),
		r.count(2, 8, func() []step { return []step{r.className(func(s string) { c.Ifaces = append(c.Ifaces, s) })} }),
		r.count(2, 60, r.field),
		r.count(2, 60, r.method),
	}
}

func (r *reference) field() []step {
	var f api.Field
	return []step{
		number(2, func(n int) {
			f.Flags = n
			r.wrong(n != 0 && n != 8, api.ErrFlags)
		}),
		r.constant(1, func(s string) { f.Name = s }),
		r.constant(1, func(s string) {
			f.Desc = s
			r.wrong(!desc.Name(f.Name, false), api.ErrName)
			r.wrong(!desc.Type(f.Desc), api.ErrDesc)
			r.wrong(f.Flags == 0 && r.class.Flags == 0x600, api.ErrFlags)
			r.class.Fields = append(r.class.Fields, f)
		}),
	}
}

// A method grows while its steps are done, so that it is kept by its number.
func (r *reference) method() []step {
	c := &r.class
	last := func() *api.Method { return &c.Methods[len(c.Methods)-1] }
	return []step{
		number(2, func(n int) {
			c.Methods = append(c.Methods, api.Method{Flags: n})
			r.wrong(n != 0 && n != 8 && n != 0x400 && n != 0x408, api.ErrFlags)
		}),
		r.constant(1, func(s string) { last().Name = s }),
		r.constant(1, func(s string) {
			last().Desc = s
			r.wrong(!desc.Name(last().Name, true), api.ErrName)
			_, _, e := desc.Method(s)
			r.wrong(e != api.OK, api.ErrDesc)
			flags := last().Flags
			r.wrong(flags == 0x408 || c.Flags == 0x600 && flags != 0x400 || c.Flags == 0 && flags == 0x400, api.ErrFlags)
			if flags != 0x400 {
				r.next(r.body(last())...)
			}
		}),
	}
}

func (r *reference) body(m *api.Method) []step {
	limited := func(n *int, most int) step {
		return number(2, func(told int) {
			r.wrong(told > most, api.ErrLong)
			*n = told
		})
	}
	return []step{
		limited(&m.Stack, 20),
		limited(&m.Locals, 40),
		number(2, func(n int) {
			r.wrong(n > 4000, api.ErrLong)
			r.next(step{n, func(b []byte) { m.Code = slices.Clone(b) }})
		}),
		r.count(2, 60, func() []step { return []step{{8, func(b []byte) { r.row(m, b) }}} }),
		r.count(2, 4000, func() []step { return r.frame(m) }),
	}
}

// row judges eight bytes at once: nothing of a row is wrong but its class, which is last.
func (r *reference) row(m *api.Method, b []byte) {
	part := func(i int) int { return int(b[i])*256 + int(b[i+1]) }
	row := api.Row{From: part(0), To: part(2), At: part(4)}
	if n := part(6); n != 0 {
		if n >= len(r.consts) || r.consts[n].Kind != 7 || r.consts[n].Text[0] == '[' {
			r.wrong(true, api.ErrConst)
			return
		}
		row.Class = r.consts[n].Text
	}
	m.Rows = append(m.Rows, row)
}

func (r *reference) frame(m *api.Method) []step {
	last := func() *api.Frame { return &m.Frames[len(m.Frames)-1] }
	return []step{
		number(2, func(n int) { m.Frames = append(m.Frames, api.Frame{Pc: n}) }),
		r.count(1, 40, func() []step { return r.typed(func(s string) { last().Locals = append(last().Locals, s) }) }),
		r.count(1, 20, func() []step { return r.typed(func(s string) { last().Stack = append(last().Stack, s) }) }),
	}
}

func (r *reference) typed(do func(s string)) []step {
	return []step{number(1, func(n int) {
		switch {
		case n > 4:
			r.wrong(true, api.ErrFrame)
		case n == 4:
			r.next(r.constant(7, func(s string) {
				if s[0] != '[' {
					s = "L" + s + ";"
				}
				do(s)
			}))
		default:
			do([]string{"", "I", "J", "N"}[n])
		}
	})}
}

// twice asks each two members.
func (r *reference) twice() bool {
	for i, f := range r.class.Fields {
		for _, g := range r.class.Fields[:i] {
			if f.Name == g.Name {
				return true
			}
		}
	}
	for i, m := range r.class.Methods {
		for _, n := range r.class.Methods[:i] {
			if m.Name == n.Name && m.Desc == n.Desc {
				return true
			}
		}
	}
	return false
}

// wantParse is the reference's word for a file.
func wantParse(b []byte) (api.Class, api.Errno) {
	if len(b) > 65536 {
		return api.Class{}, api.ErrLong
	}
	if !strings.HasPrefix(string(b), "REGL") {
		return api.Class{}, api.ErrMagic
	}
	from := pool.From(b[4:])
	consts, e := pool.Read(from)
	if e != api.OK {
		return api.Class{}, e
	}
	r := &reference{consts: consts, class: api.Class{Pool: consts}}
	r.next(number(2, func(n int) {
		r.class.Flags = n
		r.wrong(n != 0 && n != 0x400 && n != 0x600, api.ErrFlags)
		r.next(r.members()...)
	}))
	left, _ := from.Left()
	r.run(b[len(b)-left:])
	if r.fault == api.OK {
		r.wrong(r.twice(), api.ErrTwice)
	}
	if r.fault != api.OK {
		return api.Class{}, r.fault
	}
	return r.class, api.OK
}

// checkReference holds Parse against the reference.
func checkReference(t *testing.T, b []byte) api.Errno {
	t.Helper()
	want, e := wantParse(b)
	checkParse(t, b, want, e)
	return e
}

// pick is one of a list.
func pick[T any](r *rand.Rand, list ...T) T { return list[r.Intn(len(list))] }

// several are up to so many of what make makes.
func several[T any](r *rand.Rand, most int, make func() T) []T {
	var list []T
	for range r.Intn(most + 1) {
		list = append(list, make())
	}
	return list
}

func randomName(r *rand.Rand) string {
	return pick(r, "a", "b/c", "Object", "I", "$", "f9", "_", "V", named(1+r.Intn(60)))
}

// randomPlain is some type that is no array.
func randomPlain(r *rand.Rand) string { return pick(r, "I", "J", "L"+randomName(r)+";") }

func randomArray(r *rand.Rand) string {
	return strings.Repeat("[", 1+r.Intn(8)) + randomPlain(r)
}

func randomType(r *rand.Rand) string { return pick(r, randomPlain(r), randomArray(r)) }

func randomFrameType(r *rand.Rand) string {
	return pick(r, "", "I", "J", "N", "L"+randomName(r)+";", randomArray(r))
}

// randomDescriptor is some method's descriptor, of up to so many parameters.
func randomDescriptor(r *rand.Rand, most int) string {
	params := several(r, most, func() string { return randomType(r) })
	return "(" + strings.Join(params, "") + ")" + pick(r, "V", randomType(r))
}

// randomMethod is some method that a class with these flags may have.
func randomMethod(r *rand.Rand, class, most int) api.Method {
	m := api.Method{Flags: pick(r, 0, staticFlag), Name: pick(r, randomName(r), "<init>", "<"), Desc: randomDescriptor(r, min(most, 20))}
	if class == interfaceFlags || class == abstractFlag && r.Intn(2) == 0 {
		m.Flags = abstractFlag
		return m
	}
	m.Stack, m.Locals = r.Intn(21), r.Intn(41)
	m.Code = several(r, most, func() byte { return byte(r.Intn(256)) })
	m.Rows = several(r, min(most, 60), func() api.Row {
		return api.Row{From: r.Intn(65536), To: r.Intn(300), At: r.Intn(300), Class: pick(r, "", randomName(r))}
	})
	m.Frames = several(r, most, func() api.Frame {
		typed := func() string { return randomFrameType(r) }
		return api.Frame{Pc: r.Intn(65536), Locals: several(r, min(most, 40), typed), Stack: several(r, min(most, 20), typed)}
	})
	return m
}

// randomClass is some class with nothing wrong, but that members may be there twice, if that is asked for.
func randomClass(r *rand.Rand, most int, twice bool) api.Class {
	c := api.Class{Flags: pick(r, flagsOfClasses...), Name: randomName(r), Super: randomName(r)}
	c.Ifaces = several(r, min(most, 8), func() string { return randomName(r) })
	taken := map[string]bool{}
	for _, f := range several(r, min(most, 60), func() api.Field { return randomField(r, c.Flags) }) {
		if twice || !taken[f.Name] {
			c.Fields = append(c.Fields, f)
		}
		taken[f.Name] = true
	}
	for _, m := range several(r, min(most, 60), func() api.Method { return randomMethod(r, c.Flags, most) }) {
		if twice || !taken[m.Name+m.Desc] {
			c.Methods = append(c.Methods, m)
		}
		taken[m.Name+m.Desc] = true
	}
	return c
}

// randomField is some field that a class with these flags may have.
func randomField(r *rand.Rand, class int) api.Field {
	f := api.Field{Flags: staticFlag, Name: randomName(r), Desc: randomType(r)}
	if class != interfaceFlags {
		f.Flags = pick(r, 0, staticFlag)
	}
	return f
}

// TestThereAndBack: what is told of a class is what is answered, with whatever constants it is told.
func TestThereAndBack(t *testing.T) {
	r := rand.New(rand.NewSource(1))
	for range 3000 {
		c := randomClass(r, 1+r.Intn(8), false)
		w := teller{fresh: r.Intn(4) == 0}
		for range r.Intn(3) {
			w.constant(api.Const{Kind: 3, Num: 7}, []byte{0, 0, 0, 7})
			w.text(pick(r, "", "-", "a", "[I"))
		}
		w.addClass(c)
		b, consts := w.told()
		c.Pool = consts
		checkParse(t, b, c, api.OK)
		checkReference(t, b)
	}
}

// changed is b with one byte put in, taken out or changed a little, or with its end cut off.
func changed(r *rand.Rand, b []byte) []byte {
	at := r.Intn(len(b))
	c := byte(r.Intn(20))
	switch r.Intn(12) {
	case 0:
		return slices.Insert(slices.Clone(b), at, c)
	case 1:
		return slices.Delete(slices.Clone(b), at, at+1)
	case 2:
		return slices.Clone(b[:at])
	case 3:
		return append(slices.Clone(b), c)
	}
	b = slices.Clone(b)
	b[at] = pick(r, c, b[at]+1, b[at]-1, b[at]^1<<r.Intn(8))
	return b
}

// checkMany holds many changed files against the reference: each error must be among the answers.
func checkMany(t *testing.T, n int, some func() []byte) {
	t.Helper()
	seen := map[api.Errno]int{}
	for range n {
		seen[checkReference(t, some())]++
	}
	for _, e := range []api.Errno{api.OK, api.ErrLong, api.ErrEnd, api.ErrConst, api.ErrName, api.ErrDesc, api.ErrFlags, api.ErrTwice, api.ErrFrame} {
		if seen[e] < n/1000 {
			t.Errorf("only %d of %d changed files answer %v", seen[e], n, e)
		}
	}
}

func TestReferenceAtChangedFiles(t *testing.T) {
	r := rand.New(rand.NewSource(2))
	checkMany(t, 30000, func() []byte {
		var w teller
		w.text("-")
		w.addClass(randomClass(r, 1+r.Intn(4), true))
		// The pool is left as it is: its faults are told by the layer below.
		for range 1 + r.Intn(3) {
			if len(w.rest) > 0 {
				w.rest = changed(r, w.rest)
			}
		}
		b, _ := w.told()
		return b
	})
}

func TestReferenceAtChangedParts(t *testing.T) {
	r := rand.New(rand.NewSource(3))
	words := []int{0, 1, 2, 3, 4, 5, 6, 7, 8, 9, 10, 16, 17, 18, 20, 21, 40, 41, 60, 61, 0x200, 0x400, 0x408, 0x600, 4000, 4001, 65535}
	checkMany(t, 30000, func() []byte {
		p := ordinary()
		for range 1 + r.Intn(3) {
			at := atFlags + r.Intn(allParts-atFlags)
			if len(p[at]) == 2 {
				p[at] = two(pick(r, words...))
				continue
			}
			p[at] = changed(r, p[at])
			if len(p[at]) == 0 {
				p[at] = one(r.Intn(6))
			}
		}
		return p.all()
	})
}

// TestReferenceAtAnyBytes: what is behind the pool is no file at all.
func TestReferenceAtAnyBytes(t *testing.T) {
	r := rand.New(rand.NewSource(4))
	head := ordinary()
	for range 10000 {
		b := make([]byte, r.Intn(60))
		for i := range b {
			b[i] = pick(r, 0, 0, 0, 1, byte(r.Intn(20)), byte(r.Intn(256)))
		}
		checkReference(t, b)
		checkReference(t, append([]byte("REGL"), b...))
		checkReference(t, append(head.upTo(atPool+r.Intn(allParts-atPool)), b...))
	}
}

// TestReferenceAtWholeFilesChanged: the pool's bytes may be others too.
func TestReferenceAtWholeFilesChanged(t *testing.T) {
	r := rand.New(rand.NewSource(5))
	for range 10000 {
		b, _ := told(randomClass(r, 1+r.Intn(3), true))
		for range 1 + r.Intn(3) {
			if len(b) > 0 {
				b = changed(r, b)
			}
		}
		checkReference(t, b)
	}
}

// FuzzParse looks for a file that is answered otherwise than by the reference.
func FuzzParse(f *testing.F) {
	f.Add(ordinary().all())
	b, _ := told(shortest)
	f.Add(b)
	f.Fuzz(func(t *testing.T, b []byte) { checkReference(t, b) })
}

// TestParsesAreApart: what was parsed before changes nothing.
func TestParsesAreApart(t *testing.T) {
	good, bad := ordinary().all(), ordinary().with(atFlags, 2, 0).all()
	for range 3 {
		checkParse(t, good, ordinaryClass(), api.OK)
		checkFault(t, bad, api.ErrFlags)
		if _, e := file.Parse(nil); e != api.ErrMagic {
			t.Fatal(e)
		}
	}
}
