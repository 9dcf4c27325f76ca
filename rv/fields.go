package rv

import "tierline/api"

// greatest word: 32 bits, all of them set.
const greatest = 1<<32 - 1

// Where registers stand in words.
const (
	rdAt  = 7
	rs1At = 15
	rs2At = 20
)

// fields of an instruction that may be, as they stand in its word. Those that it does not have are 0, and leave it alone.
func fields(x api.Rv, s shape) int {
	w := x.Rd<<rdAt | x.Rs1<<rs1At | x.Rs2<<rs2At
	for _, p := range s.pieces {
		w |= cut(x.Imm>>p.from, p.bits) << p.at
	}
	return w
}

// instruction of a word in which its op has settled what it settles.
func instruction(op, w int, s shape) (api.Rv, api.Errno) {
	x := api.Rv{Op: op, Rd: w >> rdAt & s.rd, Rs1: w >> rs1At & s.rs1, Rs2: w >> rs2At & s.rs2, Imm: imm(w, s)}
	// Pieces have room for numbers that the shape's factor does not divide: no instruction has these.
	if !fits(x, s) {
		return api.Rv{}, api.ErrKind
	}
	return x, api.OK
}

// imm: the number that stands in the pieces of a word.
func imm(w int, s shape) int {
	n := 0
	for _, p := range s.pieces {
		n |= cut(w>>p.at, p.bits) << p.from
	}
	// In two's complement what goes beyond the greatest number stands for one below 0.
	if n > s.most {
		n += 2 * s.least
	}
	return n
}

// cut: the lowest bits of a number.
func cut(n, bits int) int { return n & (1<<bits - 1) }
