package cpu

import (
	"tierline/api"
	"tierline/rv"
)

// codeBytes: an address of code is so many times a word's place.
const codeBytes = 4

// lowBits: RLui leaves so many bits to the instruction behind it.
const lowBits = 12

// machine: its registers and data, where it is, and whether it has stopped. The words are only read.
type machine struct {
	registers
	data
	pc     int
	halted bool
	words  []int
}

func machineOf(words []int, c api.Cpu) machine {
	m := machine{registers: c.Regs, data: c.Data, pc: c.Pc, halted: c.Halted, words: words}
	m.registers[0] = 0
	return m
}

func (m *machine) cpu() api.Cpu {
	return api.Cpu{Regs: m.registers, Pc: m.pc, Data: m.data, Halted: m.halted}
}

// step of a machine that has not stopped.
func (m *machine) step() api.Errno {
	if m.pc < 0 || m.pc >= len(m.words) {
		return api.ErrState
	}
	x, e := rv.Decode(m.words[m.pc])
	if e != api.OK {
		return api.ErrKind
	}
	// Both are read ahead of all else, as Rd may be the same register.
	return m.do(x, m.registers[x.Rs1], m.registers[x.Rs2])
}

// do an instruction, with what its registers Rs1 and Rs2 are.
func (m *machine) do(x api.Rv, a, b int) api.Errno {
	switch x.Op {
	case api.RLd:
		v, e := m.load(a + x.Imm)
		if e != api.OK {
			return e
		}
		m.put(x.Rd, v)
	case api.RSd:
		if e := m.store(a+x.Imm, b); e != api.OK {
			return e
		}
	case api.RBeq, api.RBne, api.RBlt, api.RBge, api.RJal, api.RJalr:
		return m.goOn(x, a, b)
	case api.RLui:
		m.put(x.Rd, x.Imm<<lowBits)
	case api.REcall:
		m.halted = true
		return api.OK
	default:
		m.put(x.Rd, made(x, a, b))
	}
	m.pc++
	return api.OK
}

// goOn to where an instruction leads that may lead elsewhere than to the next word.
func (m *machine) goOn(x api.Rv, a, b int) api.Errno {
	next, target := m.pc+1, m.pc+x.Imm/codeBytes
	switch x.Op {
	case api.RJal:
		m.put(x.Rd, next*codeBytes)
	case api.RJalr:
		address := (a + x.Imm) &^ 1
		if address%codeBytes != 0 {
			return api.ErrForm
		}
		m.put(x.Rd, next*codeBytes)
		target = address / codeBytes
	default:
		if !holds(x.Op, a, b) {
			target = next
		}
	}
	m.pc = target
	return api.OK
}
