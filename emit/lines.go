package emit

import (
	"tierline/api"
	"tierline/rv"
)

// wordBytes and codeBytes: an address of data, or of code, is so many times a word's place.
const (
	wordBytes = 8
	codeBytes = 4
)

// label: a line to which jumps lead; they may stand ahead of it.
type label int

// line: an instruction of the machine; if it is an RJal, the label to which it leads.
type line struct {
	api.Rv
	to label
}

// lines of a function, and for each label the place ahead of which it stands.
type lines struct {
	all    []line
	stands []int
}

// label that stands nowhere yet.
func (l *lines) label() label {
	l.stands = append(l.stands, none)
	return label(len(l.stands) - 1)
}

// stand: the next line is the label's.
func (l *lines) stand(to label) { l.stands[to] = len(l.all) }

func (l *lines) add(x api.Rv) { l.all = append(l.all, line{Rv: x}) }

func (l *lines) jump(to label) { l.all = append(l.all, line{api.Rv{Op: api.RJal}, to}) }

// unless a branch holds, to a label. The branch leads over a jump, as it does not reach all of a function by itself.
func (l *lines) unless(op, a, b int, to label) {
	l.add(api.Rv{Op: op, Rs1: a, Rs2: b, Imm: 2 * codeBytes})
	l.jump(to)
}

// load a word of the Data.
func (l *lines) load(reg, word int) { l.add(api.Rv{Op: api.RLd, Rd: reg, Imm: wordBytes * word}) }

// store a word of the Data.
func (l *lines) store(reg, word int) { l.add(api.Rv{Op: api.RSd, Rs2: reg, Imm: wordBytes * word}) }

// more: a register and a small number.
func (l *lines) more(reg, from, n int) {
	l.add(api.Rv{Op: api.RAddi, Rd: reg, Rs1: from, Imm: n})
}

// lowBits: so many bits of a number, with the sign, fit in an instruction beside registers; so many has RLui below its own, of which there are upperBits.
const (
	lowBits   = 12
	upperBits = 20
)

// number in a register. What is above its lowest bits is less, so that it comes to an end.
func (l *lines) number(reg, n int) {
	low := signed(n, lowBits)
	upper := (n - low) >> lowBits
	switch upper {
	case 0:
		l.more(reg, zero, low)
		return
	case signed(upper, upperBits):
		l.add(api.Rv{Op: api.RLui, Rd: reg, Imm: upper})
	default:
		l.number(reg, upper)
		l.add(api.Rv{Op: api.RSlli, Rd: reg, Rs1: reg, Imm: lowBits})
	}
	if low != 0 {
		l.more(reg, reg, low)
	}
}

// signed: the number in two's complement that the lowest bits of another one are.
func signed(n, bits int) int { return n << (64 - bits) >> (64 - bits) }

// words of the lines. All instructions may be: the whole code of a function is within reach of a jump.
func (l *lines) words() []int {
	words := make([]int, len(l.all))
	for i, x := range l.all {
		if x.Op == api.RJal {
			x.Imm = (l.stands[x.to] - i) * codeBytes
		}
		words[i], _ = rv.Encode(x.Rv)
	}
	return words
}
