package flow_test

import (
	"fmt"
	"slices"
	"strconv"
	"strings"

	"reglet/api"
)

func atoi(s string) int {
	n, err := strconv.Atoi(s)
	if err != nil {
		panic(err)
	}
	return n
}

// Of functions that are told in words the registers 0 and 1 are ints, 2 and 3 references.
var toldRegs = []int{1, 1, 3, 3}

// toldOps says of each word how its instruction is told: which fields its numbers are, and what it has beside.
var toldOps = map[string]struct {
	fields string
	x      api.Ins
}{
	"nop":    {"", api.Ins{Op: 33}},
	"const":  {"Dst", api.Ins{Op: 1, Num: 7}},
	"move":   {"Dst A", api.Ins{Op: 4}},
	"print":  {"A", api.Ins{Op: 19}},
	"check":  {"A", api.Ins{Op: 8}},
	"new":    {"Dst", api.Ins{Op: 20}},
	"array":  {"Dst A", api.Ins{Op: 21, Ref: "I"}},
	"call":   {"Dst", api.Ins{Op: 23}},
	"goto":   {"To", api.Ins{Op: 27}},
	"if":     {"A B To", api.Ins{Op: 28}},
	"ifref":  {"A B To", api.Ins{Op: 29}},
	"return": {"A", api.Ins{Op: 30}},
	"throw":  {"A", api.Ins{Op: 31}},
	"catch":  {"Dst", api.Ins{Op: 32}},
}

// fn is a function told in words: its instructions, and each row as From/To:At Class. All registers are Params, if none are told.
func fn(code string, rows ...string) api.Func {
	f := api.Func{Regs: slices.Clone(toldRegs), Params: []int{0, 1, 2, 3}}
	for _, text := range strings.Split(code, ",") {
		words := strings.Fields(text)
		how, there := toldOps[words[0]]
		if !there {
			panic(text)
		}
		x := how.x
		for i, name := range strings.Fields(how.fields) {
			*map[string]*int{"Dst": &x.Dst, "A": &x.A, "B": &x.B, "To": &x.To}[name] = atoi(words[i+1])
		}
		f.Code = append(f.Code, x)
	}
	for _, text := range rows {
		places, class, _ := strings.Cut(text, " ")
		l := strings.FieldsFunc(places, func(r rune) bool { return r == '/' || r == ':' })
		f.Rows = append(f.Rows, api.Row{From: atoi(l[0]), To: atoi(l[1]), At: atoi(l[2]), Class: class})
	}
	return f
}

// given is the function with those Params.
func given(f api.Func, params ...int) api.Func {
	f.Params = params
	return f
}

// told is a function in words; of a long one the lengths.
func told(f api.Func) string {
	if len(f.Code)+len(f.Regs)+len(f.Rows) > 200 {
		return fmt.Sprintf("%d instructions, %d registers, %d rows", len(f.Code), len(f.Regs), len(f.Rows))
	}
	return fmt.Sprintf("%+v", f)
}
