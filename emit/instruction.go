package emit

import "tierline/api"

// machineOps: which op of the machine makes what an op of byte code makes of A and B; of Eq it is only the first.
var machineOps = [api.Eq + 1]int{
	api.Add: api.RAdd,
	api.Sub: api.RSub,
	api.Mul: api.RMul,
	api.Div: api.RDiv,
	api.And: api.RAnd,
	api.Or:  api.ROr,
	api.Xor: api.RXor,
	api.Shl: api.RSll,
	api.Sar: api.RSra,
	api.Lt:  api.RSlt,
	api.Eq:  api.RXor,
}

// instruction of a block, or out by the exit, if it cannot be done. What is known, and so each Set, is made where it is read.
func (e *emitter) instruction(x api.Ins, out exit) {
	if x.Id != none && e.isKnown(x.Id) {
		return
	}
	switch x.Op {
	case api.Load:
		e.address(x.A, out)
		rd := e.room(x.Id, spareB)
		e.add(api.Rv{Op: api.RLd, Rd: rd, Rs1: spareA, Imm: wordBytes * memoryAt})
		e.keep(x.Id, rd)
	case api.Store:
		e.address(x.A, out)
		e.add(api.Rv{Op: api.RSd, Rs1: spareA, Rs2: e.read(x.B, spareB), Imm: wordBytes * memoryAt})
	case api.Jump, api.If:
		// The block's end sees to them.
	default:
		e.combine(x, out)
	}
}

// address of a word of the memory, in a spare register.
func (e *emitter) address(value int, out exit) {
	a := e.read(value, spareA)
	e.add(api.Rv{Op: api.RSltiu, Rd: spareB, Rs1: a, Imm: api.Memory})
	e.unless(api.RBne, spareB, zero, e.exit(out))
	e.add(api.Rv{Op: api.RSlli, Rd: spareA, Rs1: a, Imm: wordShift})
}

// wordShift: by so many bits a word's place is its address.
const wordShift = 3

// combine two values to another one.
func (e *emitter) combine(x api.Ins, out exit) {
	a, b := e.read(x.A, spareA), e.read(x.B, spareB)
	if x.Op == api.Div {
		e.unless(api.RBne, b, zero, e.exit(out))
	}
	rd := e.room(x.Id, spareA)
	e.add(api.Rv{Op: machineOps[x.Op], Rd: rd, Rs1: a, Rs2: b})
	if x.Op == api.Eq {
		e.add(api.Rv{Op: api.RSltiu, Rd: rd, Rs1: rd, Imm: 1})
	}
	e.keep(x.Id, rd)
}
