package code

import "tierline/api"

// immBytes: how many bytes an Imm takes.
const immBytes = 8

func appendInstr(l []byte, x api.Instr) []byte {
	l = append(l, byte(x.Op), byte(x.Dst), byte(x.A), byte(x.B))
	for i := immBytes - 1; i >= 0; i-- {
		l = append(l, byte(uint64(x.Imm)>>(8*i)))
	}
	return l
}

// reader of bytes: it panics with api.ErrShort where they end too early, so that nobody on the way up has to ask.
type reader struct {
	bytes []byte
	at    int
}

func (r *reader) next() int {
	if r.at >= len(r.bytes) {
		panic(api.ErrShort)
	}
	b := r.bytes[r.at]
	r.at++
	return int(b)
}

func (r *reader) program() api.Program {
	var p api.Program
	for range r.next() {
		p.Funcs = append(p.Funcs, r.function())
	}
	return p
}

func (r *reader) function() api.Func {
	f := api.Func{Params: r.next(), Regs: r.next()}
	for range r.next() {
		f.Code = append(f.Code, r.instr())
	}
	return f
}

func (r *reader) instr() api.Instr {
	return api.Instr{Op: r.next(), Dst: r.next(), A: r.next(), B: r.next(), Imm: r.imm()}
}

func (r *reader) imm() int {
	n := uint64(0)
	for range immBytes {
		n = n<<8 | uint64(r.next())
	}
	return int(n)
}
