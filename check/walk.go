package check

import (
	"reglet/api"
	"reglet/code"
)

// walk is step 4: it goes through the instructions, in their order.
func (k *checker) walk() api.Errno {
	for _, op := range k.ops {
		if e := k.arrive(op.Pc); e != api.OK {
			return e
		}
		k.states = append(k.states, k.state.copied())
		k.do(op)
		if k.fault != api.OK {
			return k.fault
		}
		if e := k.leave(op); e != api.OK {
			return e
		}
	}
	return api.OK
}

// arrive makes the state that is under way the one ahead of the instruction at a place.
func (k *checker) arrive(place int) api.Errno {
	frame, there := k.frames[place]
	if !there && !k.known {
		return api.ErrFrame
	}
	if there && k.known && !k.fits(k.state, frame) {
		return api.ErrType
	}
	if there {
		k.state = frame.copied()
	}
	for _, r := range k.method.Rows {
		if r.From <= place && place < r.To && !k.allFit(k.state.Locals, k.frames[r.At].Locals) {
			return api.ErrType
		}
	}
	return api.OK
}

// leave looks at where an instruction leads.
func (k *checker) leave(op api.Op) api.Errno {
	k.known = !code.Ends(op.Code)
	if !code.Leads(op.Code) {
		return api.OK
	}
	frame, there := k.frames[op.A]
	if !there {
		return api.ErrFrame
	}
	if !k.fits(k.state, frame) {
		return api.ErrType
	}
	return api.OK
}

// checkEnd is step 5.
func (k *checker) checkEnd() api.Errno {
	if k.known {
		return api.ErrFrame
	}
	return api.OK
}
