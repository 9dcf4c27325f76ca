package sheet

import (
	"iter"
	"strconv"
	"strings"

	"tierline/api"
	"tierline/ops"
)

// lines of a text with their places. The line feed stays with its line, as the last line may lack it.
func lines(s string) iter.Seq2[int, string] {
	return func(yield func(int, string) bool) {
		rest := s
		for place := 0; rest != ""; place++ {
			end := strings.IndexByte(rest, '\n') + 1
			if end == 0 {
				end = len(rest)
			}
			if !yield(place, rest[:end]) {
				return
			}
			rest = rest[end:]
		}
	}
}

// addLine to a program; false: it is not in form.
func addLine(p *api.Program, line string) bool {
	text, ended := strings.CutSuffix(line, "\n")
	if !ended {
		return false
	}
	r := &reader{rest: strings.Split(text, " ")}
	word := r.next()
	if word == funcWord {
		return addFunc(p, r)
	}
	return addInstr(p, opOf(word), r)
}

func addFunc(p *api.Program, r *reader) bool {
	f := api.Func{Params: r.number(), Regs: r.number()}
	if !r.right() || f.Params < 0 || f.Regs < 0 {
		return false
	}
	p.Funcs = append(p.Funcs, f)
	return true
}

func addInstr(p *api.Program, op int, r *reader) bool {
	if op == 0 || len(p.Funcs) == 0 {
		return false
	}
	x := r.instr(op)
	if !r.right() {
		return false
	}
	f := &p.Funcs[len(p.Funcs)-1]
	f.Code = append(f.Code, x)
	return true
}

// reader of a line's pieces: it remembers that one was wrong, so that a line is asked about once, at its end.
type reader struct {
	rest  []string
	wrong bool
}

// right: each piece was in form, and none is left.
func (r *reader) right() bool { return !r.wrong && len(r.rest) == 0 }

func (r *reader) next() string {
	if len(r.rest) == 0 {
		r.wrong = true
		return ""
	}
	piece := r.rest[0]
	r.rest = r.rest[1:]
	return piece
}

func (r *reader) instr(op int) api.Instr {
	has := ops.Has(op)
	x := api.Instr{Op: op}
	if has&ops.Dst != 0 {
		x.Dst = r.register()
	}
	if has&(ops.Number|ops.Function) != 0 {
		x.Imm = r.number()
	}
	if has&ops.A != 0 {
		x.A = r.register()
	}
	if has&ops.B != 0 {
		x.B = r.register()
	}
	if has&ops.Target != 0 {
		x.Imm = r.number()
	}
	return x
}

func (r *reader) register() int {
	digits, ok := strings.CutPrefix(r.next(), "r")
	if !ok {
		r.wrong = true
		return 0
	}
	return r.numberOf(digits)
}

func (r *reader) number() int { return r.numberOf(r.next()) }

// numberOf a piece. Only how the number is shown is in form, so that noughts or a plus ahead and the like are refused.
func (r *reader) numberOf(piece string) int {
	n, err := strconv.ParseInt(piece, 10, 64)
	if err != nil || strconv.FormatInt(n, 10) != piece {
		r.wrong = true
		return 0
	}
	return int(n)
}
