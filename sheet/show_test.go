package sheet_test

import (
	"fmt"
	"math"
	"reflect"
	"strings"
	"testing"

	"tierline/api"
	"tierline/code"
	"tierline/drawn"
	"tierline/sheet"
)

// eachOp: an instruction of each op, with numbers that all differ, and its line.
var eachOp = []struct {
	x    api.Instr
	line string
}{
	{api.Instr{Op: api.Set, Dst: 3, Imm: 17}, "set r3 17"},
	{api.Instr{Op: api.Add, Dst: 3, A: 4, B: 5}, "add r3 r4 r5"},
	{api.Instr{Op: api.Sub, Dst: 3, A: 4, B: 5}, "sub r3 r4 r5"},
	{api.Instr{Op: api.Mul, Dst: 3, A: 4, B: 5}, "mul r3 r4 r5"},
	{api.Instr{Op: api.Div, Dst: 3, A: 4, B: 5}, "div r3 r4 r5"},
	{api.Instr{Op: api.And, Dst: 3, A: 4, B: 5}, "and r3 r4 r5"},
	{api.Instr{Op: api.Or, Dst: 3, A: 4, B: 5}, "or r3 r4 r5"},
	{api.Instr{Op: api.Xor, Dst: 3, A: 4, B: 5}, "xor r3 r4 r5"},
	{api.Instr{Op: api.Shl, Dst: 3, A: 4, B: 5}, "shl r3 r4 r5"},
	{api.Instr{Op: api.Sar, Dst: 3, A: 4, B: 5}, "sar r3 r4 r5"},
	{api.Instr{Op: api.Lt, Dst: 3, A: 4, B: 5}, "lt r3 r4 r5"},
	{api.Instr{Op: api.Eq, Dst: 3, A: 4, B: 5}, "eq r3 r4 r5"},
	{api.Instr{Op: api.Load, Dst: 3, A: 4}, "load r3 r4"},
	{api.Instr{Op: api.Store, A: 4, B: 5}, "store r4 r5"},
	{api.Instr{Op: api.Jump, Imm: 18}, "jump 18"},
	{api.Instr{Op: api.If, A: 4, Imm: 18}, "if r4 18"},
	{api.Instr{Op: api.Call, Dst: 3, A: 4, B: 5, Imm: 1}, "call r3 1 r4 r5"},
	{api.Instr{Op: api.Host, Dst: 3, A: 4}, "host r3 r4"},
	{api.Instr{Op: api.Ret, A: 4}, "ret r4"},
	{api.Instr{Op: api.Set, Imm: 0}, "set r0 0"},
	{api.Instr{Op: api.Set, Dst: 11, Imm: -5}, "set r11 -5"},
	{api.Instr{Op: api.Set, Dst: 10, Imm: -100}, "set r10 -100"},
	{api.Instr{Op: api.Set, Dst: 1, Imm: math.MaxInt64}, "set r1 9223372036854775807"},
	{api.Instr{Op: api.Set, Dst: 1, Imm: math.MinInt64}, "set r1 -9223372036854775808"},
	{api.Instr{Op: api.Add}, "add r0 r0 r0"},
	{api.Instr{Op: api.Jump}, "jump 0"},
	{api.Instr{Op: api.If}, "if r0 0"},
	{api.Instr{Op: api.Call}, "call r0 0 r0 r0"},
	{api.Instr{Op: api.Ret, A: 11}, "ret r11"},
}

// TestLines (P2.1, P2.2, P2.3): each op's line, shown and read; those of two functions.
func TestLines(t *testing.T) {
	p := one()
	text := "func 2 12\n"
	for _, c := range eachOp {
		p.Funcs[0].Code = append(p.Funcs[0].Code, c.x)
		text += c.line + "\n"
	}
	p.Funcs = append(p.Funcs, api.Func{Regs: 1, Code: []api.Instr{{Op: api.Ret}}})
	text += "func 0 1\nret r0\n"
	if got := shown(t, p); got != text {
		t.Errorf("Show: %q, want %q", got, text)
	}
	if got := read(t, text); !reflect.DeepEqual(got, p) {
		t.Errorf("Read: %v, want %v", got, p)
	}
}

// TestExample (P2.1): the chapter's example.
func TestExample(t *testing.T) {
	p := api.Program{Funcs: []api.Func{{Params: 1, Regs: 2, Code: []api.Instr{{Op: api.Set, Dst: 1, Imm: -5}, {Op: api.Add, B: 1}, {Op: api.Ret}}}}}
	text := "func 1 2\nset r1 -5\nadd r0 r0 r1\nret r0\n"
	if got := shown(t, p); got != text {
		t.Errorf("Show: %q, want %q", got, text)
	}
	if got := read(t, text); !reflect.DeepEqual(got, p) {
		t.Errorf("Read: %v, want %v", got, p)
	}
}

// TestShowRefuses (P2.2): what code's Check refuses, with the same error and no text.
func TestShowRefuses(t *testing.T) {
	five := api.Program{Funcs: make([]api.Func, api.MaxFuncs+1)}
	for _, c := range []struct {
		p    api.Program
		want api.Errno
	}{
		{api.Program{}, api.ErrSize},
		{api.Program{Funcs: []api.Func{}}, api.ErrSize},
		{five, api.ErrSize},
		{one(), api.ErrSize},
		{one(make([]api.Instr, api.MaxCode+1)...), api.ErrSize},
		{api.Program{Funcs: []api.Func{{Params: 0, Regs: 0, Code: []api.Instr{{Op: api.Ret}}}}}, api.ErrRange},
		{api.Program{Funcs: []api.Func{{Params: -1, Regs: 1, Code: []api.Instr{{Op: api.Ret}}}}}, api.ErrRange},
		{api.Program{Funcs: []api.Func{{Params: 3, Regs: 3, Code: []api.Instr{{Op: api.Ret}}}}}, api.ErrRange},
		{one(api.Instr{}), api.ErrKind},
		{one(api.Instr{Op: api.Ret + 1}), api.ErrKind},
		{one(api.Instr{Op: -1}), api.ErrKind},
		{one(api.Instr{Op: math.MinInt64}), api.ErrKind},
		{one(api.Instr{Op: math.MaxInt64}), api.ErrKind},
		{one(api.Instr{Op: api.Ret, A: 12}), api.ErrRange},
		{one(api.Instr{Op: api.Ret, A: -1}), api.ErrRange},
		{one(api.Instr{Op: api.Ret, Dst: 1}), api.ErrRange},
		{one(api.Instr{Op: api.Ret, Imm: 1}), api.ErrRange},
		{one(api.Instr{Op: api.Jump, Imm: 1}), api.ErrRange},
		{one(api.Instr{Op: api.Call, Imm: 1}), api.ErrRange},
		{one(api.Instr{Op: api.Ret, A: 12}, api.Instr{}), api.ErrRange},
	} {
		s, e := sheet.Show(c.p)
		if s != "" || e != c.want || code.Check(c.p) != c.want {
			t.Errorf("Show(%v): %q %v, Check %v, want %v", c.p, s, e, code.Check(c.p), c.want)
		}
	}
}

// TestRoundTrip (P2.2, P2.3): what is shown is read as it was, for the greatest program and drawn ones; Show changes nothing.
func TestRoundTrip(t *testing.T) {
	d := drawn.Die(21)
	l := []api.Program{drawn.Greatest(), longest()}
	for range 300 {
		l = append(l, drawn.Program(&d))
	}
	for _, p := range l {
		before := fmt.Sprint(p)
		s := shown(t, p)
		if fmt.Sprint(p) != before {
			t.Fatalf("Show changed %s to %v", before, p)
		}
		if len(s) > api.MaxText {
			t.Fatalf("%v has a text of %d bytes", p, len(s))
		}
		if q := read(t, s); !reflect.DeepEqual(p, q) {
			t.Fatalf("%v comes back as %v", p, q)
		}
	}
}

// longest: the program with the longest text.
func longest() api.Program {
	p := drawn.Greatest()
	for _, f := range p.Funcs {
		for i := range f.Code {
			f.Code[i] = api.Instr{Op: api.Set, Dst: api.MaxRegs - 1, Imm: math.MinInt64}
		}
	}
	return p
}

// TestSpareRoom: Show leaves the spare room of the lists as it was.
func TestSpareRoom(t *testing.T) {
	room := []api.Func{{Params: 2, Regs: 12}, {Params: 7, Regs: 7}}
	code := []api.Instr{{Op: api.Ret}, {Op: 7, Imm: 7}}
	room[0].Code = code[:1]
	before := fmt.Sprint(room, code)
	if got := shown(t, api.Program{Funcs: room[:1]}); strings.Count(got, "\n") != 2 {
		t.Errorf("Show: %q, want two lines", got)
	}
	if fmt.Sprint(room, code) != before {
		t.Errorf("Show changed %s to %v %v", before, room, code)
	}
}
