// Package num is layer 1: what the instructions make of whole numbers. See shared/doc/01-num.md.
package num

// The kinds of numbers. They are api's, told here again because this layer stands on nothing.
const (
	kindNone = 0
	kindInt  = 1
	kindLong = 2
)

// The codes of two ints; that of two longs is the next one each.
const (
	codeAdd       = 96
	codeSub       = 100
	codeMul       = 104
	codeDiv       = 108
	codeRest      = 112
	codeLeft      = 120
	codeRight     = 122
	codeRightZero = 124
	codeAnd       = 126
	codeOr        = 128
	codeXor       = 130
)

// The other codes.
const (
	codeNegInt    = 116
	codeNegLong   = 117
	codeIntToLong = 133
	codeLongToInt = 136
	codeByte      = 145
	codeUnsigned  = 146
	codeShort     = 147
	codeCompare   = 148
)

// The conditions.
const (
	condSame     = 0
	condOther    = 1
	condBelow    = 2
	condNotBelow = 3
	condAbove    = 4
	condNotAbove = 5
)

// The bits of a count that a shift goes by.
const (
	countInt  = 31
	countLong = 63
)

// whole is what an instruction's number is as a Go number.
type whole interface{ int32 | int64 }

// Int: what an instruction makes of two numbers of 32 bits. (A divisor 0 gives 0.)
func Int(code int, a, b int32) int32 {
	if code == codeRightZero {
		return int32(uint32(a) >> uint32(b&countInt))
	}
	return compute(code, a, b, countInt)
}

// Long: of 64 bits. A shift goes by b's lowest six bits.
func Long(code int, a, b int64) int64 {
	if !odd(code) {
		return 0
	}
	if code == codeRightZero+1 {
		return int64(uint64(a) >> uint64(b&countLong))
	}
	return compute(code-1, a, b, countLong)
}

// Two: either, and the comparison (148), on words: of 32 bits both are cut to that.
func Two(code int, a, b int64) int64 {
	if code == codeCompare {
		return compare(a, b)
	}
	if odd(code) {
		return Long(code, a, b)
	}
	return int64(Int(code, int32(a), int32(b)))
}

// One: of one word: 116, 117 the negative, 133 wider, 136 cut to 32 bits, 145, 146, 147 to a byte, 16 bits without sign, 16 bits.
func One(code int, a int64) int64 {
	switch code {
	case codeNegInt:
		return int64(-int32(a))
	case codeNegLong:
		return -a
	case codeIntToLong, codeLongToInt:
		return int64(int32(a))
	case codeByte:
		return int64(int8(a))
	case codeUnsigned:
		return int64(uint16(a))
	case codeShort:
		return int64(int16(a))
	}
	return 0
}

// Kinds: the kinds of what goes in, and of what comes out; 0: none. (1 of 32 bits, 2 of 64.)
func Kinds(code int) (int, int, int) {
	switch code {
	case codeNegInt, codeByte, codeUnsigned, codeShort:
		return kindInt, kindNone, kindInt
	case codeNegLong:
		return kindLong, kindNone, kindLong
	case codeIntToLong:
		return kindInt, kindNone, kindLong
	case codeLongToInt:
		return kindLong, kindNone, kindInt
	case codeCompare:
		return kindLong, kindLong, kindInt
	case codeLeft + 1, codeRight + 1, codeRightZero + 1:
		return kindLong, kindInt, kindLong
	}
	if odd(code) && computes(code-1) {
		return kindLong, kindLong, kindLong
	}
	if computes(code) {
		return kindInt, kindInt, kindInt
	}
	return kindNone, kindNone, kindNone
}

// Holds: does a condition hold? 0 =, 1 not =, 2 <, 3 >=, 4 >, 5 <=.
func Holds(cond int64, a, b int64) bool {
	switch cond {
	case condSame:
		return a == b
	case condOther:
		return a != b
	case condBelow:
		return a < b
	case condNotBelow:
		return a >= b
	case condAbove:
		return a > b
	case condNotAbove:
		return a <= b
	}
	return false
}

// odd asks by the lowest bit: what is left of a negative code by 2 is not 1.
func odd(code int) bool { return code&1 == 1 }

// computes: is it a code of two ints?
func computes(code int) bool {
	switch code {
	case codeAdd, codeSub, codeMul, codeDiv, codeRest, codeLeft, codeRight, codeRightZero, codeAnd, codeOr, codeXor:
		return true
	}
	return false
}

// compute is what is told of ints and longs in the same words, by the code of ints; count are the bits that a shift goes by.
// The shift that brings zeros in is not here: it hangs on how many bits there are.
func compute[T whole](code int, a, b, count T) T {
	switch code {
	case codeAdd:
		return a + b
	case codeSub:
		return a - b
	case codeMul:
		return a * b
	case codeDiv:
		return quotient(a, b)
	case codeRest:
		return rest(a, b)
	case codeLeft:
		return a << (b & count)
	case codeRight:
		return a >> (b & count)
	case codeAnd:
		return a & b
	case codeOr:
		return a | b
	case codeXor:
		return a ^ b
	}
	return 0
}

// quotient needs no word for the least number by -1: Go's quotient wraps too.
func quotient[T whole](a, b T) T {
	if b == 0 {
		return 0
	}
	return a / b
}

// rest, of a divisor 0: 0, where Go's would panic.
func rest[T whole](a, b T) T {
	if b == 0 {
		return 0
	}
	return a % b
}

// compare: -1, 0 or 1. A difference would wrap.
func compare(a, b int64) int64 {
	if a < b {
		return -1
	}
	if a > b {
		return 1
	}
	return 0
}
