package rv

import "tierline/api"

// Shapes of instructions.
const (
	shapeR = iota
	shapeI
	shapeShift
	shapeS
	shapeB
	shapeJ
	shapeU
	shapeE
)

// last register of the machine. All its bits are set, so that it is also the mask of a register's field.
const last = 31

// piece of Imm: how many bits, where they begin in Imm, and where in a word.
type piece struct{ bits, from, at int }

// shape of an instruction: the greatest number of each register, Imm's bounds and what divides it (a field that it does not have has no room but for 0), where Imm stands, and, as a mask, which bits of a word are no field's, so that its op settles them.
type shape struct {
	rd, rs1, rs2        int
	least, most, factor int
	pieces              [4]piece
	settles             int
}

var shapes = [...]shape{
	shapeR: {
		rd: last, rs1: last, rs2: last,
		factor:  1,
		settles: 0xfe00707f,
	},
	shapeI: {
		rd: last, rs1: last,
		least: -2048, most: 2047, factor: 1,
		pieces:  [4]piece{{12, 0, 20}},
		settles: 0x707f,
	},
	shapeShift: {
		rd: last, rs1: last,
		most: 63, factor: 1,
		pieces:  [4]piece{{6, 0, 20}},
		settles: 0xfc00707f,
	},
	shapeS: {
		rs1: last, rs2: last,
		least: -2048, most: 2047, factor: 1,
		pieces:  [4]piece{{5, 0, 7}, {7, 5, 25}},
		settles: 0x707f,
	},
	shapeB: {
		rs1: last, rs2: last,
		least: -4096, most: 4092, factor: 4,
		pieces:  [4]piece{{1, 11, 7}, {4, 1, 8}, {6, 5, 25}, {1, 12, 31}},
		settles: 0x707f,
	},
	shapeJ: {
		rd:    last,
		least: -1048576, most: 1048572, factor: 4,
		pieces:  [4]piece{{8, 12, 12}, {1, 11, 20}, {10, 1, 21}, {1, 20, 31}},
		settles: 0x7f,
	},
	shapeU: {
		rd:    last,
		least: -524288, most: 524287, factor: 1,
		pieces:  [4]piece{{20, 0, 12}},
		settles: 0x7f,
	},
	shapeE: {
		factor:  1,
		settles: 0xffffffff,
	},
}

// fits: whether the fields of an instruction may be those of a shape.
func fits(x api.Rv, s shape) bool {
	return within(x.Rd, 0, s.rd) && within(x.Rs1, 0, s.rs1) && within(x.Rs2, 0, s.rs2) &&
		within(x.Imm, s.least, s.most) && x.Imm%s.factor == 0
}

func within(n, least, most int) bool { return n >= least && n <= most }
