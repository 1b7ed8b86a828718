package code

import "reglet/api"

// read takes an instruction apart that has just these bytes, the first of them at that place.
func read(b []byte, at int) api.Op {
	op := api.Op{Pc: at, Code: int(b[0])}
	two := func() uint16 { return uint16(b[1])<<8 | uint16(b[2]) }
	switch rowOf(op.Code) {
	case rowByte:
		op.A = int(b[1])
	case rowSignedByte:
		op.A = int(int8(b[1]))
	case rowSignedPair:
		op.A = int(int16(two()))
	case rowPair:
		op.A = int(two())
	case rowWay:
		op.A = at + int(int16(two()))
	case rowTwoBytes:
		op.A, op.B = int(b[1]), int(int8(b[2]))
	}
	return op
}

// laid is an instruction's bytes. What doesn't fit in them is cut down; what has none is left out.
func laid(op api.Op) []byte {
	// The code of every row fits in a byte.
	code := byte(op.Code)
	switch rowOf(op.Code) {
	case rowAlone:
		return []byte{code}
	case rowByte, rowSignedByte:
		return []byte{code, byte(op.A)}
	case rowSignedPair, rowPair:
		return []byte{code, byte(op.A >> 8), byte(op.A)}
	case rowWay:
		return laidWay(op)
	case rowTwoBytes:
		return []byte{code, byte(op.A), byte(op.B)}
	}
	return nil
}

// laidWay is laid for an instruction that leads.
func laidWay(op api.Op) []byte {
	// Of other numbers than places the difference could wrap.
	if !isPlace(op.Pc) || !isPlace(op.A) {
		return nil
	}
	way := op.A - op.Pc
	return []byte{byte(op.Code), byte(way >> 8), byte(way)}
}

// isPlace: can there be code with that place?
func isPlace(n int) bool { return n >= 0 && n < api.MaxCode }

// allLead: do all that lead lead to where an instruction begins, in code of that length?
func allLead(ops []api.Op, length int) bool {
	begins := make([]bool, length)
	for _, op := range ops {
		begins[op.Pc] = true
	}
	for _, op := range ops {
		if Leads(op.Code) && (op.A < 0 || op.A >= length || !begins[op.A]) {
			return false
		}
	}
	return true
}

// same: are they the same instructions, in the same order?
func same(a, b []api.Op) bool {
	if len(a) != len(b) {
		return false
	}
	for i := range a {
		if a[i] != b[i] {
			return false
		}
	}
	return true
}
