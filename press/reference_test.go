package press_test

import (
	"encoding/binary"
	"math/rand"
	"slices"
	"strings"
	"testing"

	"reglet/api"
	"reglet/desc"
	"reglet/file"
	"reglet/press"
)

// The reference never parses: it asks of each part, ahead of writing it, all that the chapters ask of it, and looks constant by constant for the one that is wanted.

// A page is a file that is being written; spoiled, if there is none.
type page struct {
	pool    []api.Const
	flags   int
	bytes   []byte
	spoiled bool
	// Of equal constants the last one is named, as Write doesn't: the class is the same.
	last bool
}

// must spoils the page, if that doesn't hold.
func (p *page) must(holds bool) { p.spoiled = p.spoiled || !holds }

// one and two write numbers that must be among those that there may be.
func (p *page) one(n, most int) {
	p.must(n >= 0 && n <= most)
	p.bytes = append(p.bytes, byte(n))
}

func (p *page) two(n, most int) {
	p.must(n >= 0 && n <= most)
	p.bytes = binary.BigEndian.AppendUint16(p.bytes, uint16(n))
}

// mustName writes the number of a constant.
func (p *page) mustName(kind int, text string) {
	var found []int
	for i, c := range p.pool {
		if i > 0 && c.Kind == kind && c.Text == text {
			found = append(found, i)
		}
	}
	switch {
	case len(found) == 0:
		p.must(false)
	case p.last:
		p.two(found[len(found)-1], 999)
	default:
		p.two(found[0], 999)
	}
}

// class writes the number of a class that is no array.
func (p *page) class(name string) {
	p.must(desc.Name(name, false))
	p.mustName(7, name)
}

// member writes a field's or a method's name and its descriptor.
func (p *page) member(name, descriptor string, method bool) {
	p.must(desc.Name(name, method))
	_, _, e := desc.Method(descriptor)
	p.must(method && e == api.OK || !method && desc.Type(descriptor))
	p.mustName(1, name)
	p.mustName(1, descriptor)
}

// constant writes a constant. What its kind doesn't use must be empty.
func (p *page) constant(c api.Const) {
	used := api.Const{Kind: c.Kind}
	p.one(c.Kind, 11)
	switch c.Kind {
	case 1:
		used.Text = c.Text
		p.two(len(c.Text), 65535)
		p.bytes = append(p.bytes, c.Text...)
	case 3:
		used.Num = int64(int32(c.Num))
		p.bytes = binary.BigEndian.AppendUint32(p.bytes, uint32(c.Num))
	case 5:
		used.Num = c.Num
		p.bytes = binary.BigEndian.AppendUint64(p.bytes, uint64(c.Num))
	case 7, 8:
		used.Text = c.Text
		p.must(c.Kind == 8 || desc.Name(c.Text, false) || strings.HasPrefix(c.Text, "[") && desc.Type(c.Text))
		p.mustName(1, c.Text)
	case 9, 10, 11:
		used.Text, used.Name, used.Desc = c.Text, c.Name, c.Desc
		p.class(c.Text)
		p.member(c.Name, c.Desc, c.Kind != 9)
	default:
		p.must(false)
	}
	p.must(c == used)
}

// field and method look at the class's flags too.
func (p *page) field(f api.Field) {
	p.must(f.Flags == staticFlag || f.Flags == 0 && p.flags != interfaceFlags)
	p.two(f.Flags, 65535)
	p.member(f.Name, f.Desc, false)
}

func (p *page) method(m api.Method) {
	p.two(m.Flags, 65535)
	p.member(m.Name, m.Desc, true)
	if m.Flags == abstractFlag {
		p.must(p.flags != 0)
		p.must(m.Stack == 0 && m.Locals == 0 && len(m.Code) == 0 && len(m.Rows) == 0 && len(m.Frames) == 0)
		return
	}
	p.must((m.Flags == 0 || m.Flags == staticFlag) && p.flags != interfaceFlags)
	p.two(m.Stack, 20)
	p.two(m.Locals, 40)
	p.two(len(m.Code), 4000)
	p.bytes = append(p.bytes, m.Code...)
	p.two(len(m.Rows), 60)
	for _, r := range m.Rows {
		p.two(r.From, 65535)
		p.two(r.To, 65535)
		p.two(r.At, 65535)
		if r.Class == "" {
			p.two(0, 0)
		} else {
			p.class(r.Class)
		}
	}
	p.two(len(m.Frames), 4000)
	for _, f := range m.Frames {
		p.two(f.Pc, 65535)
		p.types(f.Locals, 40)
		p.types(f.Stack, 20)
	}
}

func (p *page) types(types []string, most int) {
	p.one(len(types), most)
	for _, s := range types {
		i := slices.Index([]string{"", "I", "J", "N"}, s)
		switch {
		case i >= 0:
			p.one(i, 3)
		case !desc.Type(s):
			p.must(false)
		case s[0] == '[':
			p.one(4, 4)
			p.mustName(7, s)
		default:
			p.one(4, 4)
			p.mustName(7, s[1:len(s)-1])
		}
	}
}

// twice: have two of them the same name? (Of methods the descriptor counts too.)
func twice(c api.Class) bool {
	for i, f := range c.Fields {
		if slices.ContainsFunc(c.Fields[:i], func(g api.Field) bool { return f.Name == g.Name }) {
			return true
		}
	}
	for i, m := range c.Methods {
		if slices.ContainsFunc(c.Methods[:i], func(n api.Method) bool { return m.Name == n.Name && m.Desc == n.Desc }) {
			return true
		}
	}
	return false
}

// wantWrite is the reference's word for a class: its file; nil: there is none.
func wantWrite(c api.Class) []byte { return layOut(c, false) }

// layOut names of equal constants the first one, or the last.
func layOut(c api.Class, last bool) []byte {
	if len(c.Pool) == 0 || c.Pool[0] != (api.Const{}) || len(c.Fields) > 60 || len(c.Methods) > 60 || twice(c) {
		return nil
	}
	p := &page{pool: c.Pool, flags: c.Flags, bytes: []byte("REGL"), last: last}
	p.two(len(c.Pool), 1000)
	for _, constant := range c.Pool[1:] {
		p.constant(constant)
	}
	p.must(c.Flags == 0 || c.Flags == abstractFlag || c.Flags == interfaceFlags)
	p.two(c.Flags, 65535)
	p.class(c.Name)
	p.class(c.Super)
	p.two(len(c.Ifaces), 8)
	for _, name := range c.Ifaces {
		p.class(name)
	}
	p.two(len(c.Fields), 60)
	for _, f := range c.Fields {
		p.field(f)
	}
	p.two(len(c.Methods), 60)
	for _, m := range c.Methods {
		p.method(m)
	}
	if p.spoiled || len(p.bytes) > 65536 {
		return nil
	}
	return p.bytes
}

// pick is one of a list.
func pick[T any](r *rand.Rand, list ...T) T { return list[r.Intn(len(list))] }

// several are up to so many of what some makes.
func several[T any](r *rand.Rand, most int, some func() T) []T {
	var list []T
	for range r.Intn(most + 1) {
		list = append(list, some())
	}
	return list
}

func randomName(r *rand.Rand) string {
	return pick(r, "a", "b/c", "Object", "I", "$", "f9", strings.Repeat("n", 1+r.Intn(60)))
}

func randomPlain(r *rand.Rand) string { return pick(r, "I", "J", "L"+randomName(r)+";") }

func randomArray(r *rand.Rand) string { return strings.Repeat("[", 1+r.Intn(8)) + randomPlain(r) }

func randomType(r *rand.Rand) string { return pick(r, randomPlain(r), randomArray(r)) }

func randomFrameType(r *rand.Rand) string {
	return pick(r, "", "I", "J", "N", "L"+randomName(r)+";", randomArray(r))
}

func randomDescriptor(r *rand.Rand) string {
	params := several(r, 4, func() string { return randomType(r) })
	return "(" + strings.Join(params, "") + ")" + pick(r, "V", randomType(r))
}

// randomNumber is some number of two bytes.
func randomNumber(r *rand.Rand) int { return pick(r, 0, 1, 255, 256, 65535, r.Intn(65536)) }

// randomMethod is some method that a class with these flags may have.
func randomMethod(r *rand.Rand, class, most int) api.Method {
	m := api.Method{Flags: pick(r, 0, staticFlag), Name: pick(r, randomName(r), "<init>", ">"), Desc: randomDescriptor(r)}
	if class == interfaceFlags || class == abstractFlag && r.Intn(2) == 0 {
		m.Flags = abstractFlag
		return m
	}
	m.Stack, m.Locals = r.Intn(21), r.Intn(41)
	m.Code = several(r, most, func() byte { return byte(r.Intn(256)) })
	m.Rows = several(r, most, func() api.Row {
		return api.Row{From: randomNumber(r), To: randomNumber(r), At: randomNumber(r), Class: pick(r, "", randomName(r))}
	})
	m.Frames = several(r, most, func() api.Frame {
		typed := func() string { return randomFrameType(r) }
		return api.Frame{Pc: randomNumber(r), Locals: several(r, most, typed), Stack: several(r, most, typed)}
	})
	return m
}

func randomField(r *rand.Rand, class int) api.Field {
	f := api.Field{Flags: staticFlag, Name: randomName(r), Desc: randomType(r)}
	if class != interfaceFlags {
		f.Flags = pick(r, 0, staticFlag)
	}
	return f
}

// randomConst is some constant with nothing wrong, if what it names is there.
func randomConst(r *rand.Rand) api.Const {
	switch kind := pick(r, 1, 3, 5, 7, 8, 9, 10, 11); kind {
	case 1:
		return api.Const{Kind: 1, Text: pick(r, "", "-", "\xff\x00", randomName(r), randomType(r), randomDescriptor(r))}
	case 3:
		return api.Const{Kind: 3, Num: int64(int32(r.Uint32()))}
	case 5:
		return api.Const{Kind: 5, Num: int64(r.Uint64())}
	case 7:
		return api.Const{Kind: 7, Text: pick(r, randomName(r), randomArray(r))}
	case 8:
		return api.Const{Kind: 8, Text: pick(r, "", "told", randomName(r))}
	case 9:
		return api.Const{Kind: 9, Text: randomName(r), Name: randomName(r), Desc: randomType(r)}
	default:
		return api.Const{Kind: kind, Text: randomName(r), Name: pick(r, randomName(r), "<init>"), Desc: randomDescriptor(r)}
	}
}

// randomPool is a class with a pool in no order: with constants that nobody wants, and some of them twice.
func randomPool(r *rand.Rand, c api.Class) api.Class {
	pool := pooled(c, several(r, 8, func() api.Const { return randomConst(r) })...).Pool[1:]
	pool = append(pool, several(r, 8, func() api.Const { return pick(r, pool...) })...)
	r.Shuffle(len(pool), func(i, j int) { pool[i], pool[j] = pool[j], pool[i] })
	c.Pool = append([]api.Const{{}}, pool...)
	return c
}

// randomClass is some class that has a file.
func randomClass(r *rand.Rand, most int) api.Class {
	c := api.Class{Flags: pick(r, 0, abstractFlag, interfaceFlags), Name: randomName(r), Super: randomName(r)}
	c.Ifaces = several(r, min(most, 8), func() string { return randomName(r) })
	for range r.Intn(most + 1) {
		d := c
		d.Fields = append(slices.Clone(c.Fields), randomField(r, c.Flags))
		d.Methods = append(slices.Clone(c.Methods), randomMethod(r, c.Flags, most))
		if !twice(d) {
			c = d
		}
	}
	return randomPool(r, c)
}

func TestReferenceAtRandomClasses(t *testing.T) {
	r := rand.New(rand.NewSource(1))
	for range 3000 {
		checkWritten(t, randomClass(r, 1+r.Intn(6)))
	}
}

// TestReferenceAtChangedClasses: a class is changed in a few spots, so that there is a file of some of them.
func TestReferenceAtChangedClasses(t *testing.T) {
	r := rand.New(rand.NewSource(2))
	written := 0
	const all = 5000
	for range all {
		c := clone(randomClass(r, 1+r.Intn(3)))
		for range 1 + r.Intn(2) {
			s := pick(r, spotsOf(&c)...)
			s.value.Set(pick(r, others(s.value)...))
		}
		want := wantWrite(c)
		checkWrite(t, c, want)
		if want != nil {
			written++
		}
	}
	if written < all/20 || written > all/2 {
		t.Errorf("of %d changed classes %d have files", all, written)
	}
}

// TestParsedCanBeWritten: whichever of equal constants a file names, its class is written with the first ones.
func TestParsedCanBeWritten(t *testing.T) {
	r := rand.New(rand.NewSource(3))
	renamed := 0
	for range 3000 {
		c := randomClass(r, 1+r.Intn(4))
		b := layOut(c, true)
		parsed, e := file.Parse(b)
		if e != api.OK {
			t.Fatalf("% x: %v", b, e)
		}
		want := wantWrite(c)
		checkWrite(t, parsed, want)
		if !slices.Equal(b, want) {
			renamed++
		}
	}
	if renamed < 1000 {
		t.Errorf("only %d files name other constants than the first ones", renamed)
	}
}

// changed is b with some byte changed a little.
func changed(r *rand.Rand, b []byte) []byte {
	b = slices.Clone(b)
	at := r.Intn(len(b))
	b[at] = pick(r, byte(r.Intn(20)), b[at]+1, b[at]-1, b[at]^1<<r.Intn(8))
	return b
}

// checkRewritten: the class of a file that is taken must have the same length when it is written. False: it isn't taken.
func checkRewritten(t *testing.T, b []byte) bool {
	t.Helper()
	c, e := file.Parse(b)
	if e != api.OK {
		return false
	}
	checkWritten(t, c)
	if again, _ := press.Write(c); len(again) != len(b) {
		t.Fatalf("% x is written again as % x", b, again)
	}
	return true
}

func TestChangedFilesCanBeWritten(t *testing.T) {
	r := rand.New(rand.NewSource(4))
	taken := 0
	for range 10000 {
		b := layOut(randomClass(r, 1+r.Intn(3)), r.Intn(2) == 0)
		for range 1 + r.Intn(3) {
			b = changed(r, b)
		}
		if checkRewritten(t, b) {
			taken++
		}
	}
	if taken < 1000 {
		t.Errorf("only %d changed files are taken", taken)
	}
}

// FuzzWrite looks for a file whose class is written otherwise than by the reference.
func FuzzWrite(f *testing.F) {
	f.Add(wantWrite(ordinary()))
	f.Add(wantWrite(pooled(shortest)))
	f.Fuzz(func(t *testing.T, b []byte) { checkRewritten(t, b) })
}
