package dead_test

import (
	"fmt"
	"slices"
	"strconv"
	"strings"

	"reglet/api"
)

// Of functions that are told in words the registers 0 to 4 are ints, 5 to 7 references, 8 to 11 longs. All are Params.
var toldRegs = []int{1, 1, 1, 1, 1, 3, 3, 3, 2, 2, 2, 2}

// words says of each word how its instruction is told: which fields its numbers are (those behind them are Args), and what it has beside.
var words = map[string]struct {
	fields string
	x      api.Ins
}{
	"const":       {"Dst Num", api.Ins{Op: 1}},
	"nothing":     {"Dst", api.Ins{Op: 2}},
	"text":        {"Dst", api.Ins{Op: 3, Ref: "a text"}},
	"move":        {"Dst A", api.Ins{Op: 4}},
	"bin":         {"Num Dst A B", api.Ins{Op: 5}},
	"add":         {"Dst A B", api.Ins{Op: 5, Num: 96}},
	"compare":     {"Dst A B", api.Ins{Op: 5, Num: 148}},
	"un":          {"Num Dst A", api.Ins{Op: 6}},
	"negative":    {"Dst A", api.Ins{Op: 6, Num: 116}},
	"zerocheck":   {"A", api.Ins{Op: 7}},
	"nullcheck":   {"A", api.Ins{Op: 8}},
	"boundcheck":  {"A B", api.Ins{Op: 9}},
	"sizecheck":   {"A", api.Ins{Op: 10}},
	"storecheck":  {"A B", api.Ins{Op: 11}},
	"castcheck":   {"A", api.Ins{Op: 12, Ref: "La;"}},
	"load":        {"Dst A B", api.Ins{Op: 13}},
	"store":       {"A B C", api.Ins{Op: 14}},
	"len":         {"Dst A", api.Ins{Op: 15}},
	"getfield":    {"Dst A", api.Ins{Op: 16, Num: 3}},
	"putfield":    {"A B", api.Ins{Op: 17, Num: 3}},
	"getstatic":   {"Dst", api.Ins{Op: 18, Num: 2}},
	"putstatic":   {"A", api.Ins{Op: 19, Num: 2}},
	"new":         {"Dst", api.Ins{Op: 20, Num: 15}},
	"newarray":    {"Dst A", api.Ins{Op: 21, Ref: "I"}},
	"instance":    {"Dst A", api.Ins{Op: 22, Ref: "La;"}},
	"call":        {"Dst", api.Ins{Op: 23, Num: 4}},
	"callvirtual": {"Dst", api.Ins{Op: 24, Num: 5}},
	"calliface":   {"Dst", api.Ins{Op: 25, Ref: "f()V"}},
	"callnative":  {"Dst", api.Ins{Op: 26}},
	"goto":        {"To", api.Ins{Op: 27}},
	"ifint":       {"Num A B To", api.Ins{Op: 28}},
	"ifref":       {"A B To", api.Ins{Op: 29}},
	"return":      {"A", api.Ins{Op: 30}},
	"throw":       {"A", api.Ins{Op: 31}},
	"catch":       {"Dst", api.Ins{Op: 32}},
	"nop":         {"", api.Ins{Op: 33}},
}

// fn is a function told in words: its instructions, and each row as From/To:At Class. It gives back what its first return that has a register is of.
func fn(code string, rows ...string) api.Func {
	f := api.Func{Regs: slices.Clone(toldRegs), Params: counted(len(toldRegs))}
	for text := range strings.SplitSeq(code, ",") {
		x := instruction(strings.Fields(text))
		f.Code = append(f.Code, x)
		if x.Op == 30 && x.A >= 0 && f.Ret == 0 {
			f.Ret = f.Regs[x.A]
		}
	}
	for _, text := range rows {
		var r api.Row
		places, class, _ := strings.Cut(text, " ")
		if _, err := fmt.Sscanf(places, "%d/%d:%d", &r.From, &r.To, &r.At); err != nil {
			panic(text)
		}
		r.Class = class
		f.Rows = append(f.Rows, r)
	}
	return f
}

func instruction(told []string) api.Ins {
	how, there := words[told[0]]
	if !there {
		panic(told[0])
	}
	x := how.x
	fields := strings.Fields(how.fields)
	for i, text := range told[1:] {
		n, err := strconv.ParseInt(text, 10, 64)
		switch {
		case err != nil:
			panic(text)
		case i >= len(fields):
			x.Args = append(x.Args, int(n))
		case fields[i] == "Num":
			x.Num = n
		default:
			*map[string]*int{"Dst": &x.Dst, "A": &x.A, "B": &x.B, "C": &x.C, "To": &x.To}[fields[i]] = int(n)
		}
	}
	return x
}

// given is the function with those Params.
func given(f api.Func, params ...int) api.Func {
	f.Params = params
	return f
}

// counted are the numbers from 0 on.
func counted(n int) []int {
	l := make([]int, n)
	for i := range l {
		l[i] = i
	}
	return l
}

// told is a function in words; of a long one the lengths.
func told(f api.Func) string {
	if len(f.Code)+len(f.Regs)+len(f.Rows) > 300 {
		return fmt.Sprintf("%d instructions, %d registers, %d rows", len(f.Code), len(f.Regs), len(f.Rows))
	}
	return fmt.Sprintf("%+v", f)
}
