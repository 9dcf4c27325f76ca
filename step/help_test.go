package step_test

import (
	"fmt"
	"math"
	"math/big"
	"slices"
	"testing"

	"tierline/api"
	"tierline/drawn"
	"tierline/step"
	"tierline/told"
)

const counted = told.Counted

// endless calls itself.
const endless = "func 1 1\ncall r0 0 r0 r0\nret r0\n"

// edges: numbers at the bounds, and others.
var edges = []int{math.MinInt, math.MinInt + 1, -1 << 32, -65, -64, -63, -16, -7, -2, -1, 0, 1, 2, 6, 7, 15, 16, 63, 64, 65, 1 << 31, 1 << 32, math.MaxInt - 1, math.MaxInt}

// regs of a frame.
func regs(l ...int) (r [api.MaxRegs]int) {
	copy(r[:], l)
	return r
}

// deep: a state of endless with so many frames.
func deep(frames int) api.State {
	return api.State{Frames: slices.Repeat([]api.Frame{{}}, frames), Fuel: 9}
}

// same: a list without elements may be nil or not, which a text does not tell.
func same(s, want api.State) bool { return fmt.Sprint(s) == fmt.Sprint(want) }

func wantState(t *testing.T, what string, s api.State, e api.Errno, want api.State) {
	t.Helper()
	if e != api.OK || !same(s, want) {
		t.Errorf("%s:\n%v %v, want\n%v", what, s, e, want)
	}
}

func wantRefused(t *testing.T, what string, s api.State, e, want api.Errno) {
	t.Helper()
	if e != want || !same(s, api.State{}) {
		t.Errorf("%s: %v %v, want nothing and %v", what, s, e, want)
	}
}

// next state, which must be one.
func next(t *testing.T, p api.Program, s api.State) api.State {
	t.Helper()
	w, e := step.Next(p, s)
	if e != api.OK {
		t.Fatalf("Next(%v, %v): %v, want OK", p, s, e)
	}
	return w
}

// numbers that look drawn, small ones and others.
func numbers(d *drawn.Die, n int) []int {
	l := make([]int, n)
	for i := range l {
		l[i] = d.Below(20) - 2
		if d.Below(4) == 0 {
			l[i] = edges[d.Below(len(edges))]
		}
	}
	return l
}

// cut: the lowest 64 bits of a number, in two's complement.
func cut(x *big.Int) int {
	low := new(big.Int).And(x, new(big.Int).SetUint64(math.MaxUint64))
	return int(low.Uint64())
}

// made by an op from Set to Eq, by the chapter's words (P4.4), in numbers without bounds; Div has no 0.
func made(op, a, b, imm int) int {
	x, y, z := big.NewInt(int64(a)), big.NewInt(int64(b)), new(big.Int)
	six := uint(new(big.Int).And(y, big.NewInt(63)).Uint64())
	switch op {
	case api.Set:
		return imm
	case api.Add:
		return cut(z.Add(x, y))
	case api.Sub:
		return cut(z.Sub(x, y))
	case api.Mul:
		return cut(z.Mul(x, y))
	case api.Div:
		return cut(z.Quo(x, y))
	case api.And:
		return cut(z.And(x, y))
	case api.Or:
		return cut(z.Or(x, y))
	case api.Xor:
		return cut(z.Xor(x, y))
	case api.Shl:
		return cut(z.Lsh(x, six))
	case api.Sar:
		return cut(z.Rsh(x, six))
	case api.Lt:
		return map[bool]int{true: 1}[x.Cmp(y) < 0]
	}
	return map[bool]int{true: 1}[x.Cmp(y) == 0]
}

// teller of a run, by the chapter's words (P4.3): a Call is a call of its own, and frames are found only where it stops.
type teller struct {
	p    api.Program
	s    api.State
	left int // steps
}

// toldState: the state to which a run comes behind so many steps.
func toldState(p api.Program, args, answers []int, fuel, steps int) api.State {
	r := teller{p: p, s: api.State{Fuel: fuel, Answers: answers}, left: steps}
	if v, back := r.function(0, args, 1); back {
		r.s.Status, r.s.Value = api.Done, v
	}
	return r.s
}

// function of a run, with so many frames up to it: what it makes, and whether it came back.
func (r *teller) function(fn int, params []int, depth int) (int, bool) {
	f := api.Frame{Fn: fn, Regs: regs(params...)}
	for {
		x := r.p.Funcs[fn].Code[f.Pc]
		a := f.Regs[x.A]
		going := r.left > 0 && r.fuelled() && r.allowed(x, &f, depth)
		r.left--
		if going && x.Op == api.Ret {
			return a, true
		}
		if !going || !r.instruction(x, &f, depth) {
			r.s.Frames = slices.Insert(r.s.Frames, 0, f)
			return 0, false
		}
	}
}

// fuelled: is there fuel for a step?
func (r *teller) fuelled() bool {
	if r.s.Fuel == 0 {
		r.s.Status = api.Empty
	}
	return r.s.Fuel > 0
}

// allowed: takes from the fuel what is to be taken, and says whether the instruction goes on.
func (r *teller) allowed(x api.Instr, f *api.Frame, depth int) bool {
	outside := !slices.Contains([]int{0, 1, 2, 3, 4, 5, 6, 7, 8, 9, 10, 11, 12, 13, 14, 15}, f.Regs[x.A])
	if x.Op == api.Div && f.Regs[x.B] == 0 {
		r.s.Status = api.Zero
		return false
	}
	if (x.Op == api.Load || x.Op == api.Store) && outside {
		r.s.Status = api.Outside
		return false
	}
	r.s.Fuel--
	if x.Op == api.Call && depth == api.MaxDepth {
		r.s.Status = api.Deep
		return false
	}
	return true
}

// instruction that is no Ret: false, if it called a function that did not come back.
func (r *teller) instruction(x api.Instr, f *api.Frame, depth int) bool {
	a, b, to := f.Regs[x.A], f.Regs[x.B], f.Pc+1
	switch x.Op {
	case api.Load:
		f.Regs[x.Dst] = r.s.Memory[a]
	case api.Store:
		r.s.Memory[a] = b
	case api.Jump:
		to = x.Imm
	case api.If:
		if a != 0 {
			to = x.Imm
		}
	case api.Host:
		r.s.Events = append(r.s.Events, a)
		f.Regs[x.Dst] = 0
		if len(r.s.Answers) > 0 {
			f.Regs[x.Dst], r.s.Answers = r.s.Answers[0], r.s.Answers[1:]
		}
	case api.Call:
		v, back := r.function(x.Imm, []int{a, b}[:r.p.Funcs[x.Imm].Params], depth+1)
		if !back {
			return false
		}
		f.Regs[x.Dst] = v
	default:
		f.Regs[x.Dst] = made(x.Op, a, b, x.Imm)
	}
	f.Pc = to
	return true
}
