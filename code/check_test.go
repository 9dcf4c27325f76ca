package code_test

import (
	"fmt"
	"math"
	"reflect"
	"testing"

	"tierline/api"
	"tierline/code"
	"tierline/drawn"
)

// having: for each op what it has (P1.1), by letters: d, a, b: registers; n: a number; t: a target; f: a function.
func having() map[int]string {
	m := map[int]string{api.Set: "dn", api.Load: "da", api.Host: "da", api.Store: "ab", api.Jump: "t", api.If: "at", api.Call: "dabf", api.Ret: "a"}
	for op := api.Add; op <= api.Eq; op++ {
		m[op] = "dab"
	}
	return m
}

// bound: how many numbers a field may be, from 0 on, in the program of around.
func bound(parts string, letter byte) int {
	for i := range len(parts) {
		if parts[i] != letter {
			continue
		}
		switch letter {
		case 't':
			return places
		case 'f':
			return funcs
		}
		return regs
	}
	return 1
}

func wantField(t *testing.T, x api.Instr, field string, n, most int) {
	t.Helper()
	want := api.ErrRange
	if n >= 0 && n < most {
		want = api.OK
	}
	wantCheck(t, fmt.Sprintf("op %d, %s %d", x.Op, field, n), around(x), want)
}

// TestRegisters (P1.1, P1.2): a register that an op has is from 0 to Regs - 1; what it does not have is 0.
func TestRegisters(t *testing.T) {
	for op, parts := range having() {
		for _, n := range []int{0, 1, regs - 1, regs, places - 1, api.MaxRegs, 256, -1, math.MinInt, math.MaxInt} {
			wantField(t, api.Instr{Op: op, Dst: n}, "Dst", n, bound(parts, 'd'))
			wantField(t, api.Instr{Op: op, A: n}, "A", n, bound(parts, 'a'))
			wantField(t, api.Instr{Op: op, B: n}, "B", n, bound(parts, 'b'))
		}
	}
}

// TestImm (P1.1, P1.2): a target is a place of the function, a function one of the program, a number whatever it is; else it is 0.
func TestImm(t *testing.T) {
	for op, parts := range having() {
		most := max(bound(parts, 't'), bound(parts, 'f'))
		for _, n := range []int{0, 1, funcs - 1, funcs, regs, places - 1, places, 256, 1 << 32, -1, math.MinInt, math.MaxInt} {
			x := api.Instr{Op: op, Imm: n}
			if op == api.Set {
				wantCheck(t, fmt.Sprint("set to ", n), around(x), api.OK)
				continue
			}
			wantField(t, x, "Imm", n, most)
		}
	}
}

// TestKind (P1.2): there is no such op; that is said ahead of whatever else is wrong.
func TestKind(t *testing.T) {
	for _, op := range []int{0, -1, api.Ret + 1, 255, 256 + api.Set, math.MinInt, math.MaxInt} {
		wantCheck(t, fmt.Sprint("op ", op), around(api.Instr{Op: op}), api.ErrKind)
		wantCheck(t, fmt.Sprint("op with bad fields ", op), around(api.Instr{Op: op, Dst: -1, A: 99, B: 99, Imm: -1}), api.ErrKind)
	}
}

// TestFuncs (P1.3): 1 to MaxFuncs functions.
func TestFuncs(t *testing.T) {
	for n := range api.MaxFuncs + 3 {
		want := api.ErrSize
		if n >= 1 && n <= api.MaxFuncs {
			want = api.OK
		}
		wantCheck(t, fmt.Sprint(n, " functions"), alike(n), want)
	}
	wantCheck(t, "no functions, not nil", api.Program{Funcs: []api.Func{}}, api.ErrSize)
	wantCheck(t, "greatest", drawn.Greatest(), api.OK)
}

// TestRegsAndParams (P1.3): their bounds.
func TestRegsAndParams(t *testing.T) {
	for _, c := range []struct {
		params, regs int
		want         api.Errno
	}{
		{0, 1, api.OK}, {1, 1, api.OK}, {2, 2, api.OK}, {2, api.MaxRegs, api.OK}, {0, api.MaxRegs, api.OK},
		{0, 0, api.ErrRange}, {0, -1, api.ErrRange}, {0, api.MaxRegs + 1, api.ErrRange}, {0, math.MinInt, api.ErrRange}, {0, math.MaxInt, api.ErrRange},
		{-1, 1, api.ErrRange}, {api.MaxParams + 1, api.MaxRegs, api.ErrRange}, {2, 1, api.ErrRange}, {math.MinInt, 3, api.ErrRange}, {math.MaxInt, 3, api.ErrRange},
	} {
		wantCheck(t, fmt.Sprint("params ", c.params, ", regs ", c.regs), one(c.params, c.regs, repeat(1)...), c.want)
	}
}

// TestLength (P1.3): 1 to MaxCode instructions.
func TestLength(t *testing.T) {
	for n := range api.MaxCode + 3 {
		want := api.ErrSize
		if n >= 1 && n <= api.MaxCode {
			want = api.OK
		}
		wantCheck(t, fmt.Sprint(n, " instructions"), one(0, 1, repeat(n)...), want)
	}
}

// TestOrder (P1.3): of several faults the one that is named first, function by function, instruction by instruction.
func TestOrder(t *testing.T) {
	kind, far := api.Instr{Op: 0}, api.Instr{Op: api.Ret, A: 9}
	badRegs := api.Func{Code: repeat(1)}
	many := alike(api.MaxFuncs + 1)
	many.Funcs[0] = badRegs
	wantCheck(t, "many functions, bad registers", many, api.ErrSize)
	wantCheck(t, "bad registers, no code", one(0, 0), api.ErrRange)
	wantCheck(t, "bad parameters, no code", one(2, 1), api.ErrRange)
	wantCheck(t, "bad parameters, bad op", one(3, 3, kind), api.ErrRange)
	wantCheck(t, "much code, bad op", one(0, 1, append([]api.Instr{kind}, repeat(api.MaxCode)...)...), api.ErrSize)
	wantCheck(t, "bad op, then bad register", one(0, 1, kind, far), api.ErrKind)
	wantCheck(t, "bad register, then bad op", one(0, 1, far, kind), api.ErrRange)
	wantCheck(t, "bad op, then bad function", api.Program{Funcs: []api.Func{{Regs: 1, Code: []api.Instr{kind}}, badRegs}}, api.ErrKind)
	wantCheck(t, "no code, then bad function", api.Program{Funcs: []api.Func{{Regs: 1}, badRegs}}, api.ErrSize)
	wantCheck(t, "bad function last", api.Program{Funcs: []api.Func{{Regs: 1, Code: repeat(1)}, badRegs}}, api.ErrRange)
}

// TestOwnBounds (P1.3): each function is held against its own registers and places, not those of another.
func TestOwnBounds(t *testing.T) {
	wide := api.Func{Regs: 4, Code: []api.Instr{{Op: api.Jump, Imm: 2}, {Op: api.Ret, A: 3}, {Op: api.Ret}}}
	for _, x := range []api.Instr{{Op: api.Ret, A: 1}, {Op: api.Jump, Imm: 1}} {
		slim := api.Func{Regs: 1, Code: []api.Instr{x}}
		wantCheck(t, "slim last", api.Program{Funcs: []api.Func{wide, slim}}, api.ErrRange)
		wantCheck(t, "slim first", api.Program{Funcs: []api.Func{slim, wide}}, api.ErrRange)
	}
	wantCheck(t, "call of a later function", api.Program{Funcs: []api.Func{{Regs: 1, Code: []api.Instr{{Op: api.Call, Imm: 1}, {Op: api.Ret}}}, wide}}, api.OK)
}

// TestCheckDrawn (P1.3): well shaped programs are, and they stay as they were.
func TestCheckDrawn(t *testing.T) {
	d := drawn.Die(1)
	for range 300 {
		p := drawn.Program(&d)
		before := fmt.Sprint(p)
		wantCheck(t, before, p, api.OK)
		if fmt.Sprint(p) != before {
			t.Fatalf("Check changed %s to %v", before, p)
		}
	}
}

// TestNilOrEmpty: lists without elements are the same, nil or not.
func TestNilOrEmpty(t *testing.T) {
	a, b := one(0, 1), one(0, 1)
	a.Funcs[0].Code, b.Funcs[0].Code = nil, []api.Instr{}
	if code.Check(a) != api.ErrSize || code.Check(b) != api.ErrSize {
		t.Errorf("Check of no code: %v and %v", code.Check(a), code.Check(b))
	}
	p, e := code.Decode(nil)
	q, f := code.Decode([]byte{})
	if !reflect.DeepEqual(p, q) || e != f {
		t.Errorf("Decode of no bytes: %v %v and %v %v", p, e, q, f)
	}
}
