package pool

// The widest number that a reader gives.
const longBytes = 8

// A Reader goes through bytes; once they are missing all it gives is 0.
type Reader struct {
	// A text, since it can't be changed from outside, and pieces of it can be handed out as they are.
	rest    string
	missing bool
}

// From: a reader of bytes.
func From(b []byte) *Reader { return &Reader{rest: string(b)} }

// Num: a number of n bytes (1 to 8), the highest first.
func (r *Reader) Num(n int) uint64 {
	// Take must not be asked: of a count that is no number's nothing may be done.
	if n < 1 || n > longBytes {
		return 0
	}
	bytes := r.Take(n)
	var number uint64
	for i := range len(bytes) {
		number = number<<8 | uint64(bytes[i])
	}
	return number
}

// Take: n bytes.
func (r *Reader) Take(n int) string {
	if r == nil {
		return ""
	}
	if n < 0 || n > len(r.rest) {
		r.rest, r.missing = "", true
		return ""
	}
	taken := r.rest[:n]
	r.rest = r.rest[n:]
	return taken
}

// Left: how many bytes are left; and were there always enough?
func (r *Reader) Left() (int, bool) {
	if r == nil {
		return 0, false
	}
	return len(r.rest), !r.missing
}
