package code_test

import (
	"bytes"
	"fmt"
	"math"
	"reflect"
	"slices"
	"testing"

	"tierline/api"
	"tierline/code"
	"tierline/drawn"
)

// TestEncode (P1.4): each byte at its place.
func TestEncode(t *testing.T) {
	two := api.Program{Funcs: []api.Func{
		{Params: 2, Regs: 12, Code: []api.Instr{{Op: api.Call, Dst: 11, A: 10, B: 9, Imm: 1}, {Op: api.If, A: 3, Imm: 0}, {Op: api.Ret, A: 4}}},
		{Params: 1, Regs: 3, Code: []api.Instr{{Op: api.Store, A: 1, B: 2}}},
	}}
	for _, c := range []struct {
		p    api.Program
		want []byte
	}{
		{one(0, 1, api.Instr{Op: api.Set, Imm: -2}), []byte{1, 0, 1, 1, 1, 0, 0, 0, 255, 255, 255, 255, 255, 255, 255, 254}},
		{one(0, 1, api.Instr{Op: api.Set, Imm: 0x0102030405060708}), []byte{1, 0, 1, 1, 1, 0, 0, 0, 1, 2, 3, 4, 5, 6, 7, 8}},
		{one(0, 1, api.Instr{Op: api.Set, Imm: math.MinInt64}), []byte{1, 0, 1, 1, 1, 0, 0, 0, 128, 0, 0, 0, 0, 0, 0, 0}},
		{one(0, 1, api.Instr{Op: api.Set, Imm: math.MaxInt64}), []byte{1, 0, 1, 1, 1, 0, 0, 0, 127, 255, 255, 255, 255, 255, 255, 255}},
		{two, []byte{2,
			2, 12, 3,
			17, 11, 10, 9, 0, 0, 0, 0, 0, 0, 0, 1,
			16, 0, 3, 0, 0, 0, 0, 0, 0, 0, 0, 0,
			19, 0, 4, 0, 0, 0, 0, 0, 0, 0, 0, 0,
			1, 3, 1,
			14, 0, 1, 2, 0, 0, 0, 0, 0, 0, 0, 0}},
	} {
		if got := encoded(t, c.p); !bytes.Equal(got, c.want) {
			t.Errorf("Encode(%v): %v, want %v", c.p, got, c.want)
		}
		if got, e := code.Decode(c.want); e != api.OK || !reflect.DeepEqual(got, c.p) {
			t.Errorf("Decode(%v): %v %v, want %v", c.want, got, e, c.p)
		}
	}
}

// TestEncodeRefuses (P1.4): what Check refuses, with the same error and no bytes.
func TestEncodeRefuses(t *testing.T) {
	for _, c := range []struct {
		p    api.Program
		want api.Errno
	}{
		{api.Program{}, api.ErrSize},
		{alike(api.MaxFuncs + 1), api.ErrSize},
		{alike(257), api.ErrSize},
		{one(0, 1), api.ErrSize},
		{one(0, 1, repeat(257)...), api.ErrSize},
		{one(0, 257, repeat(1)...), api.ErrRange},
		{one(-1, 1, repeat(1)...), api.ErrRange},
		{one(0, 1, api.Instr{Op: 256 + api.Ret}), api.ErrKind},
		{one(0, 1, api.Instr{Op: api.Ret, A: 256}), api.ErrRange},
		{one(0, 1, api.Instr{Op: api.Ret, B: -1}), api.ErrRange},
		{one(0, 1, api.Instr{Op: api.Jump, Imm: 1}), api.ErrRange},
	} {
		l, e := code.Encode(c.p)
		if len(l) != 0 || e != c.want || code.Check(c.p) != c.want {
			t.Errorf("Encode(%v): %v %v, Check %v, want %v", c.p, l, e, code.Check(c.p), c.want)
		}
	}
}

// TestRoundTrip (P1.4, P1.5): what is encoded is decoded as it was, for the greatest program and drawn ones.
func TestRoundTrip(t *testing.T) {
	d := drawn.Die(2)
	l := []api.Program{drawn.Greatest()}
	for range 300 {
		l = append(l, drawn.Program(&d))
	}
	for _, p := range l {
		before := fmt.Sprint(p)
		b := encoded(t, p)
		q, e := code.Decode(b)
		if e != api.OK || !reflect.DeepEqual(p, q) {
			t.Fatalf("%v comes back as %v %v", p, q, e)
		}
		if fmt.Sprint(p) != before {
			t.Fatalf("Encode changed %s to %v", before, p)
		}
	}
}

// TestShortAndMore (P1.5): each beginning of a program's bytes is ErrShort; with more behind them it is ErrForm.
func TestShortAndMore(t *testing.T) {
	d := drawn.Die(3)
	for _, p := range []api.Program{drawn.Greatest(), alike(1), drawn.Program(&d), drawn.Program(&d), drawn.Program(&d)} {
		b := encoded(t, p)
		for n := range b {
			wantDecode(t, b[:n], api.ErrShort)
		}
		for _, more := range [][]byte{{0}, {1}, {255, 255}, b} {
			wantDecode(t, slices.Concat(b, more), api.ErrForm)
		}
	}
}

// wantDecode: an error, and no program with it.
func wantDecode(t *testing.T, l []byte, want api.Errno) {
	t.Helper()
	p, e := code.Decode(l)
	if e != want || len(p.Funcs) != 0 {
		t.Errorf("Decode of %d bytes (%v ..): %v %v, want %v", len(l), l[:min(len(l), 20)], p, e, want)
	}
}

// filled: so many bytes, of which the first ones are these.
func filled(n int, first ...byte) []byte {
	l := make([]byte, n)
	copy(l, first)
	return l
}

// TestDecodeRefuses (P1.5): ErrSize, ErrShort and ErrForm in their order; then what Check refuses.
func TestDecodeRefuses(t *testing.T) {
	for _, c := range []struct {
		l    []byte
		want api.Errno
	}{
		{nil, api.ErrShort},
		{[]byte{0}, api.ErrSize},
		{[]byte{0, 0}, api.ErrForm},
		{[]byte{1}, api.ErrShort},
		{[]byte{1, 0, 1}, api.ErrShort},
		{[]byte{1, 0, 1, 0}, api.ErrSize},
		{[]byte{1, 0, 0, 0}, api.ErrRange},
		{[]byte{1, 0, 1, 0, 0}, api.ErrForm},
		{[]byte{255}, api.ErrShort},
		{[]byte{1, 0, 1, 255}, api.ErrShort},
		{filled(16, 1, 0, 1, 1), api.ErrKind},
		{filled(16, 1, 0, 1, 1, 20), api.ErrKind},
		{filled(16, 1, 0, 1, 1, api.Ret, 1), api.ErrRange},
		{filled(16, 1, 3, 3, 1, api.Ret), api.ErrRange},
		{filled(16, 1, 0, 13, 1, api.Ret), api.ErrRange},
		{filled(17, 1, 0, 13, 1, api.Ret), api.ErrForm},
		{filled(15, 1, 0, 13, 1, api.Ret), api.ErrShort},
		{filled(1+5*3, 5), api.ErrSize},
		{filled(1+255*3, 255), api.ErrSize},
		{filled(255*3, 255), api.ErrShort},
		{filled(4+41*12, 1, 0, 1, 41), api.ErrSize},
		{filled(api.MaxBytes), api.ErrForm},
		{filled(api.MaxBytes, 1, 0, 1, 1, api.Ret), api.ErrForm},
		{filled(api.MaxBytes + 1), api.ErrSize},
		{filled(api.MaxBytes+1, 1, 0, 1, 1, api.Ret), api.ErrSize},
		{bytes.Repeat([]byte{255}, api.MaxBytes), api.ErrShort},
		{bytes.Repeat([]byte{255}, api.MaxBytes+1), api.ErrSize},
		{bytes.Repeat([]byte{255}, 1<<20), api.ErrSize},
	} {
		wantDecode(t, c.l, c.want)
	}
}

// TestOneForm (P1.4, P1.5): bytes that look drawn, or are those of a program but for some, never panic; what is decoded has just these bytes.
func TestOneForm(t *testing.T) {
	d := drawn.Die(4)
	right := 0
	for i := range 5000 {
		l := make([]byte, d.Below(60))
		for j := range l {
			l[j] = byte(d.Below(20))
		}
		if i%2 == 0 {
			l = encoded(t, drawn.Program(&d))
			for range d.Below(3) {
				l[d.Below(len(l))] = byte(d.Below(256))
			}
		}
		before := slices.Clone(l)
		p, e := code.Decode(l)
		if !bytes.Equal(l, before) {
			t.Fatalf("Decode changed %v to %v", before, l)
		}
		if e != api.OK {
			wantDecode(t, l, e)
			continue
		}
		if right++; !bytes.Equal(encoded(t, p), l) {
			t.Fatalf("%v is decoded to %v, whose bytes are %v", l, p, encoded(t, p))
		}
	}
	if right < 500 {
		t.Errorf("only %d of the drawn ones were programs", right)
	}
}

// TestNewMemory: no answer shares memory with what was handed in, with another answer, or within itself, spare room neither.
func TestNewMemory(t *testing.T) {
	p := drawn.Greatest()
	b := encoded(t, p)
	want := slices.Clone(b)
	q, _ := code.Decode(b)
	r, _ := code.Decode(b)
	spoil(q)
	clear(b[:cap(b)])
	if !reflect.DeepEqual(r, p) {
		t.Errorf("an answer changed with another one, or with the bytes: %v", r)
	}
	if got := encoded(t, r); !bytes.Equal(got, want) {
		t.Errorf("Encode answers other bytes the second time: %v", got)
	}
	s, _ := code.Decode(want)
	for i := range s.Funcs {
		rest := fmt.Sprint(s.Funcs[i+1:])
		l := s.Funcs[i].Code
		clear(l[:cap(l)])
		if fmt.Sprint(s.Funcs[i+1:]) != rest {
			t.Errorf("functions behind %d changed with its code", i)
		}
	}
}

// spoil: overwrite all lists of a program, with their spare room.
func spoil(p api.Program) {
	for _, f := range p.Funcs {
		clear(f.Code[:cap(f.Code)])
	}
	clear(p.Funcs[:cap(p.Funcs)])
}

// FuzzDecode (P1.5): whatever the bytes are, Decode ends, and what it answers holds together.
func FuzzDecode(f *testing.F) {
	f.Add([]byte{})
	f.Add([]byte{1, 0, 1, 1, 1, 0, 0, 0, 255, 255, 255, 255, 255, 255, 255, 254})
	f.Fuzz(func(t *testing.T, l []byte) {
		p, e := code.Decode(l)
		if e != api.OK {
			wantDecode(t, l, e)
			return
		}
		if !bytes.Equal(encoded(t, p), l) {
			t.Errorf("%v is decoded to %v", l, p)
		}
	})
}
