package rv_test

import (
	"testing"

	"tierline/api"
	"tierline/drawn"
	"tierline/rv"
)

// TestFields (P11.1, P11.2): each op with each number of each register, and with each number of Imm that has twelve bits or fewer, or few bits that differ from the others.
func TestFields(t *testing.T) {
	for op := api.RAdd; op <= api.REcall; op++ {
		for n := -1; n <= 32; n++ {
			wantTold(t, api.Rv{Op: op, Rd: n})
			wantTold(t, api.Rv{Op: op, Rs1: n})
			wantTold(t, api.Rv{Op: op, Rs2: n})
			wantTold(t, api.Rv{Op: op, Rd: 31 - n, Rs1: n, Rs2: 31})
		}
		for n := -4100; n <= 4100; n++ {
			wantTold(t, api.Rv{Op: op, Imm: n})
		}
		for bit := range 63 {
			for other := range bit + 1 {
				n := 1<<bit | 1<<other
				wantTold(t, api.Rv{Op: op, Rd: 21, Imm: n})
				wantTold(t, api.Rv{Op: op, Rs1: 10, Imm: -n})
				wantTold(t, api.Rv{Op: op, Imm: ^n})
			}
		}
	}
}

// TestOnce (what comes of P11): no instruction has two words: any other bit makes another instruction of its word, or none.
func TestOnce(t *testing.T) {
	d := drawn.Die(111)
	others, none := 0, 0
	for op := api.RAdd; op <= api.REcall; op++ {
		for range 50 {
			w := wordOf(instr(&d, op))
			for bit := range 32 {
				if wantRead(t, w^1<<bit) == api.OK {
					others++
				} else {
					none++
				}
			}
		}
	}
	if min(others, none) < 10000 {
		t.Errorf("too little is seen: %d words of others, %d of none", others, none)
	}
}

// instr: a drawn instruction that may be.
func instr(d *drawn.Die, op int) api.Rv {
	s, _ := shapeOf(op)
	x := api.Rv{Op: op, Imm: s.least + s.factor*d.Below((s.most-s.least)/s.factor+1)}
	for _, c := range s.has {
		*map[rune]*int{'d': &x.Rd, 'a': &x.Rs1, 'b': &x.Rs2}[c] = d.Below(32)
	}
	return x
}

// loose: a drawn instruction whose fields may be wrong.
func loose(d *drawn.Die) api.Rv {
	x := instr(d, 1+d.Below(api.REcall))
	for _, field := range []*int{&x.Op, &x.Rd, &x.Rs1, &x.Rs2, &x.Imm} {
		switch d.Below(12) {
		case 0:
			*field = d.Below(40) - 4
		case 1:
			*field = int(d.Bits()) >> d.Below(64)
		}
	}
	return x
}

// word: a drawn number, mostly a word that ends as that of some op does.
func word(d *drawn.Die) int {
	w := int(d.Bits()) >> (30 + d.Below(3))
	if d.Below(4) > 0 {
		w = w&^0x7f | lows[1+d.Below(api.REcall)]
	}
	return w
}

// TestDrawn (P11.1, P11.2, P11.3): drawn instructions and words, held against the chapter's words.
func TestDrawn(t *testing.T) {
	d := drawn.Die(112)
	var seen, read [api.ErrSteps + 1]int
	for range 20000 {
		seen[wantTold(t, loose(&d))]++
		read[wantRead(t, word(&d))]++
	}
	if min(seen[api.OK], seen[api.ErrRange], seen[api.ErrKind], read[api.OK], read[api.ErrRange], read[api.ErrKind]) < 300 {
		t.Errorf("too little is seen: instructions %v, words %v", seen, read)
	}
}

// TestAgain: asked again, the answers are the same.
func TestAgain(t *testing.T) {
	d := drawn.Die(113)
	for range 100 {
		x := loose(&d)
		w, e := rv.Encode(x)
		wantTold(t, loose(&d))
		if again, f := rv.Encode(x); again != w || f != e {
			t.Errorf("Encode(%v) again: %d %v, want %d %v", x, again, f, w, e)
		}
	}
}

// FuzzRv (P11.1, P11.2, P11.3): whatever the fields and the word are, the answers are those of the chapter's words.
func FuzzRv(f *testing.F) {
	d := drawn.Die(114)
	for range 60 {
		x := loose(&d)
		f.Add(x.Op, x.Rd, x.Rs1, x.Rs2, x.Imm, word(&d))
	}
	f.Fuzz(func(t *testing.T, op, rd, rs1, rs2, imm, word int) {
		wantTold(t, api.Rv{Op: op, Rd: rd, Rs1: rs1, Rs2: rs2, Imm: imm})
		wantRead(t, word)
	})
}
