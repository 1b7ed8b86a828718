package desc_test

import (
	"math/rand"
	"regexp"
	"slices"
	"strings"
	"testing"

	"reglet/api"
	"reglet/desc"
)

// The reference tells the chapter's words as patterns, so that it shares no way of reading with the package.

const typePattern = `\[{0,8}(?:I|J|L[a-zA-Z0-9_$/]{1,60};)`

var (
	className  = regexp.MustCompile(`\A[a-zA-Z0-9_$/]{1,60}\z`)
	methodName = regexp.MustCompile(`\A[a-zA-Z0-9_$/<>]{1,60}\z`)
	oneType    = regexp.MustCompile(`\A` + typePattern + `\z`)
	anyType    = regexp.MustCompile(typePattern)
	method     = regexp.MustCompile(`\A\(((?:` + typePattern + `)*)\)(V|` + typePattern + `)\z`)
)

// wantMethod is what the patterns say of a method's descriptor; no part behind: it is none.
func wantMethod(s string) ([]string, string) {
	m := method.FindStringSubmatch(s)
	if m == nil {
		return nil, ""
	}
	params := anyType.FindAllString(m[1], -1)
	if len(params) > 20 {
		return nil, ""
	}
	return params, m[2]
}

// wantKind, wantOf, wantClass and wantElement tell the words of each, by places of the text.
func wantKind(s string) int {
	if n := strings.Index("IJN", s); len(s) == 1 && n >= 0 {
		return n + 1
	}
	if s != "" && (s[0] == 'L' || s[0] == '[') {
		return 3
	}
	return 0
}

func wantOf(s string) string {
	if s != "" && s[0] == '[' {
		return s
	}
	return "L" + s + ";"
}

func wantClass(s string) string {
	if len(s) >= 3 && s[0] == 'L' && s[len(s)-1] == ';' {
		return s[1 : len(s)-1]
	}
	return ""
}

func wantElement(s string) string {
	if len(s) >= 2 && s[0] == '[' {
		return s[1:]
	}
	return ""
}

// checkAll holds all calls at one text against the reference.
func checkAll(t *testing.T, s string) {
	t.Helper()
	if got, want := desc.Name(s, false), className.MatchString(s); got != want {
		t.Fatalf("Name(%q, false) = %v, want %v", s, got, want)
	}
	if got, want := desc.Name(s, true), methodName.MatchString(s); got != want {
		t.Fatalf("Name(%q, true) = %v, want %v", s, got, want)
	}
	if got, want := desc.Type(s), oneType.MatchString(s); got != want {
		t.Fatalf("Type(%q) = %v, want %v", s, got, want)
	}
	params, ret := wantMethod(s)
	checkMethod(t, s, params, ret)
	if got, want := desc.Kind(s), wantKind(s); got != want {
		t.Fatalf("Kind(%q) = %d, want %d", s, got, want)
	}
	if got, want := desc.Of(s), wantOf(s); got != want {
		t.Fatalf("Of(%q) = %q, want %q", s, got, want)
	}
	if got, want := desc.Class(s), wantClass(s); got != want {
		t.Fatalf("Class(%q) = %q, want %q", s, got, want)
	}
	if got, want := desc.Element(s), wantElement(s); got != want {
		t.Fatalf("Element(%q) = %q, want %q", s, got, want)
	}
}

// told is a method's descriptor, put together from its parts.
func told(params []string, ret string) string {
	return "(" + strings.Join(params, "") + ")" + ret
}

// waysToTell is by how many lists of types a text is told.
func waysToTell(s string) int {
	ways := make([]int, len(s)+1)
	ways[0] = 1
	for end := 1; end <= len(s); end++ {
		for from := range end {
			if desc.Type(s[from:end]) {
				ways[end] += ways[from]
			}
		}
	}
	return ways[len(s)]
}

// checkOneWay: what Method takes is told anew by its parts, by as few as may be, and by no other ones.
func checkOneWay(t *testing.T, s string) {
	t.Helper()
	params, ret, e := desc.Method(s)
	if e != api.OK {
		return
	}
	if told(params, ret) != s {
		t.Fatalf("%q is told anew as %q", s, told(params, ret))
	}
	if len(params) > api.MaxParams || ret != "V" && !desc.Type(ret) {
		t.Fatalf("Method(%q) = %q, %q", s, params, ret)
	}
	for _, param := range params {
		if !desc.Type(param) {
			t.Fatalf("Method(%q) has the parameter %q", s, param)
		}
	}
	if n := waysToTell(strings.Join(params, "")); n != 1 {
		t.Fatalf("%q is told by %d lists", s, n)
	}
}

// manyTexts are all texts of up to six of the bytes that mean something.
func manyTexts(yield func(string)) {
	var grow func(s string)
	grow = func(s string) {
		yield(s)
		if len(s) == 6 {
			return
		}
		for _, c := range "()[IL;aV" {
			grow(s + string(c))
		}
	}
	grow("")
}

func TestReferenceAtShortTexts(t *testing.T) {
	manyTexts(func(s string) {
		checkAll(t, s)
		checkOneWay(t, s)
	})
}

func TestReferenceAtAllTextsOfTwoBytes(t *testing.T) {
	for a := range 256 {
		checkAll(t, string([]byte{byte(a)}))
		for b := range 256 {
			checkAll(t, string([]byte{byte(a), byte(b)}))
		}
	}
}

// randomType is some type, now and then one at an edge.
func randomType(r *rand.Rand) string {
	s := []string{"I", "J", "La;", "L"}[r.Intn(4)]
	if s == "L" {
		const bytes = "abzAIJLVZ09_$/"
		for range 1 + r.Intn(60) {
			i := r.Intn(len(bytes))
			s += bytes[i : i+1]
		}
		s += ";"
	}
	if r.Intn(2) == 0 {
		s = strings.Repeat("[", r.Intn(9)) + s
	}
	return s
}

// randomParts are the parts of some method's descriptor, of up to so many parameters.
func randomParts(r *rand.Rand, most int) ([]string, string) {
	var params []string
	for range r.Intn(most + 1) {
		params = append(params, randomType(r))
	}
	if r.Intn(3) == 0 {
		return params, "V"
	}
	return params, randomType(r)
}

func TestOneWayOfParts(t *testing.T) {
	// The seed is fixed: a fault must come again.
	r := rand.New(rand.NewSource(1))
	// What has been told, by what: two lists of parts must not meet in one text.
	seen := map[string][]string{}
	for range 3000 {
		params, ret := randomParts(r, api.MaxParams)
		s := told(params, ret)
		checkMethod(t, s, params, ret)
		checkOneWay(t, s)
		parts := append(params, ret)
		if other, ok := seen[s]; ok && !slices.Equal(other, parts) {
			t.Fatalf("%q is told by %q and %q", s, other, parts)
		}
		seen[s] = parts
	}
}

// changed is s with one byte put in, taken out, put in another's place, or told twice, or with its end cut off.
func changed(r *rand.Rand, s string) string {
	at := r.Intn(len(s))
	c := []byte{byte(r.Intn(256))}
	if r.Intn(2) == 0 {
		const bytes = "()[IJLNV;a<>/ "
		c[0] = bytes[r.Intn(len(bytes))]
	}
	switch r.Intn(5) {
	case 0:
		return s[:at] + string(c) + s[at:]
	case 1:
		return s[:at] + s[at+1:]
	case 2:
		return s[:at] + string(c) + s[at+1:]
	case 3:
		return s[:at+1] + s[at:]
	}
	return s[:at]
}

func TestReferenceAtChangedTexts(t *testing.T) {
	r := rand.New(rand.NewSource(2))
	for range 3000 {
		// Some have more parameters than may be.
		params, ret := randomParts(r, api.MaxParams+2)
		for _, s := range append(params, told(params, ret)) {
			checkAll(t, s)
			checkAll(t, changed(r, s))
			checkAll(t, changed(r, changed(r, s)+"I"))
		}
	}
}
