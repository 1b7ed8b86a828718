package live_test

import (
	"fmt"
	"slices"
	"strconv"
	"strings"

	"reglet/api"
	"reglet/live"
)

// Of functions that are told in words the registers 0, 1 and 2 are ints, 3, 4 and 5 references. All are Params.
var toldRegs = []int{1, 1, 1, 3, 3, 3}

// words says of each word how its instruction is told: which fields its numbers are (those behind them are Args), and what it has beside.
var words = map[string]struct {
	fields string
	x      api.Ins
}{
	"nop":     {"", api.Ins{Op: 33}},
	"const":   {"Dst", api.Ins{Op: 1, Num: 7}},
	"move":    {"Dst A", api.Ins{Op: 4}},
	"add":     {"Dst A B", api.Ins{Op: 5, Num: 96}},
	"print":   {"A", api.Ins{Op: 19}},
	"zero":    {"A", api.Ins{Op: 7}},
	"null":    {"A", api.Ins{Op: 8}},
	"bound":   {"A B", api.Ins{Op: 9}},
	"load":    {"Dst A B", api.Ins{Op: 13}},
	"store":   {"A B C", api.Ins{Op: 14}},
	"new":     {"Dst", api.Ins{Op: 20}},
	"array":   {"Dst A", api.Ins{Op: 21, Ref: "I"}},
	"call":    {"Dst", api.Ins{Op: 23}},
	"virtual": {"Dst", api.Ins{Op: 24}},
	"iface":   {"Dst", api.Ins{Op: 25}},
	"native":  {"Dst", api.Ins{Op: 26}},
	"goto":    {"To", api.Ins{Op: 27}},
	"stay":    {"", api.Ins{Op: 27}},
	"if":      {"A B To", api.Ins{Op: 28}},
	"ifref":   {"A B To", api.Ins{Op: 29}},
	"return":  {"A", api.Ins{Op: 30}},
	"throw":   {"A", api.Ins{Op: 31}},
	"catch":   {"Dst", api.Ins{Op: 32}},
}

// fn is a function told in words: its instructions (of which stay goes to itself), and each row as From/To:At Class. What it gives back is an int, if it returns any register.
func fn(code string, rows ...string) api.Func {
	f := api.Func{Regs: slices.Clone(toldRegs), Params: []int{0, 1, 2, 3, 4, 5}}
	for text := range strings.SplitSeq(code, ",") {
		told := strings.Fields(text)
		x := instruction(told)
		if told[0] == "stay" {
			x.To = len(f.Code)
		}
		f.Code = append(f.Code, x)
		if x.Op == 30 && x.A >= 0 {
			f.Ret = 1
		}
	}
	for _, text := range rows {
		var r api.Row
		places, class, _ := strings.Cut(text, " ")
		if _, err := fmt.Sscanf(places, "%d/%d:%d", &r.From, &r.To, &r.At); err != nil {
			panic(text)
		}
		r.Class = class
		f.Rows = append(f.Rows, r)
	}
	return f
}

func instruction(told []string) api.Ins {
	how, there := words[told[0]]
	if !there {
		panic(told[0])
	}
	x := how.x
	fields := strings.Fields(how.fields)
	for i, text := range told[1:] {
		n, err := strconv.Atoi(text)
		switch {
		case err != nil:
			panic(text)
		case i < len(fields):
			*map[string]*int{"Dst": &x.Dst, "A": &x.A, "B": &x.B, "C": &x.C, "To": &x.To}[fields[i]] = n
		default:
			x.Args = append(x.Args, n)
		}
	}
	return x
}

// told is a function in words; of a long one the lengths.
func told(f api.Func) string {
	if len(f.Code)+len(f.Regs)+len(f.Rows) > 300 {
		return fmt.Sprintf("%d instructions, %d registers, %d rows", len(f.Code), len(f.Regs), len(f.Rows))
	}
	return fmt.Sprintf("%+v", f)
}

// sets tells a function's table: of each place the registers live ahead of it, behind it, and across it.
func sets(f api.Func) string {
	t := live.Of(f)
	var places []string
	for i := range f.Code {
		places = append(places, strings.Join([]string{
			registers(f, func(r int) bool { return t.Before(i, r) }),
			registers(f, func(r int) bool { return t.After(i, r) }),
			registers(f, func(r int) bool { return t.Across(f, i, r) }),
		}, ">"))
	}
	return strings.Join(places, ", ")
}

// registers tells of which registers something holds.
func registers(f api.Func, holds func(r int) bool) string {
	var s string
	for r := range f.Regs {
		if holds(r) {
			s += strconv.Itoa(r)
		}
	}
	return s
}
