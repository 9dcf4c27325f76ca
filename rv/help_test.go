package rv_test

import (
	"slices"
	"testing"

	"tierline/api"
	"tierline/rv"
)

// shape of instructions, in the chapter's words: its ops, the fields that it has (d: Rd, a: Rs1, b: Rs2), Imm's bounds and what divides it, and where the bits of Imm stand in a word: from the first one to the last one, and at which bit.
type shape struct {
	ops                 []int
	has                 string
	least, most, factor int
	stand               [][3]int
}

// shapes: what P11.1 says of each shape, and P11.2 of its Imm.
var shapes = []shape{
	{span(api.RAdd, api.RSltu), "dab", 0, 0, 1, nil},
	{append(span(api.RAddi, api.RSltiu), api.RLd, api.RJalr), "da", -2048, 2047, 1, [][3]int{{0, 11, 20}}},
	{[]int{api.RSlli, api.RSrai}, "da", 0, 63, 1, [][3]int{{0, 5, 20}}},
	{[]int{api.RSd}, "ab", -2048, 2047, 1, [][3]int{{0, 4, 7}, {5, 11, 25}}},
	{span(api.RBeq, api.RBge), "ab", -4096, 4092, 4, [][3]int{{11, 11, 7}, {1, 4, 8}, {5, 10, 25}, {12, 12, 31}}},
	{[]int{api.RJal}, "d", -1048576, 1048572, 4, [][3]int{{12, 19, 12}, {11, 11, 20}, {1, 10, 21}, {20, 20, 31}}},
	{[]int{api.RLui}, "d", -524288, 524287, 1, [][3]int{{0, 19, 12}}},
	{[]int{api.REcall}, "", 0, 0, 1, nil},
}

// span: all numbers from one to another.
func span(first, last int) []int {
	var l []int
	for n := first; n <= last; n++ {
		l = append(l, n)
	}
	return l
}

// shapeOf an op; false: there is no such op.
func shapeOf(op int) (shape, bool) {
	for _, s := range shapes {
		if slices.Contains(s.ops, op) {
			return s, true
		}
	}
	return shape{}, false
}

// checkOf an instruction (P11.1).
func checkOf(x api.Rv) api.Errno {
	s, ok := shapeOf(x.Op)
	if !ok {
		return api.ErrKind
	}
	for i, n := range []int{x.Rd, x.Rs1, x.Rs2} {
		if has := slices.Contains([]byte(s.has), "dab"[i]); n != 0 && (!has || n < 0 || n > 31) {
			return api.ErrRange
		}
	}
	if x.Imm < s.least || x.Imm > s.most || x.Imm%s.factor != 0 {
		return api.ErrRange
	}
	return api.OK
}

// What an op's words have at the bits 0 to 6, 12 to 14, and 25 to 31, in the chapter's words (P11.2).
var (
	lows = byOp(map[int][]int{
		51: span(api.RAdd, api.RSltu), 19: span(api.RAddi, api.RSrai), 3: {api.RLd}, 103: {api.RJalr}, 35: {api.RSd},
		99: span(api.RBeq, api.RBge), 111: {api.RJal}, 55: {api.RLui}, 115: {api.REcall},
	})
	middles = byOp(map[int][]int{
		1: {api.RSll, api.RSlli, api.RBne},
		2: {api.RSlt, api.RSlti},
		3: {api.RSltu, api.RSltiu, api.RLd, api.RSd},
		4: {api.RDiv, api.RXor, api.RXori, api.RBlt},
		5: {api.RSra, api.RSrai, api.RBge},
		6: {api.ROr, api.ROri},
		7: {api.RAnd, api.RAndi},
	})
	// The bits 26 to 31 of an RSrai are 16: with the bit 25 below them that is 32, and Imm.
	highs = byOp(map[int][]int{32: {api.RSub, api.RSra, api.RSrai}, 1: {api.RMul, api.RDiv}})
)

// byOp: for each op the number that has it in its list; 0: none has.
func byOp(lists map[int][]int) (l [api.REcall + 1]int) {
	for n, ops := range lists {
		for _, op := range ops {
			l[op] = n
		}
	}
	return l
}

// wordOf an instruction that may be, Imm bit by bit (P11.2).
func wordOf(x api.Rv) int {
	w := lows[x.Op] + middles[x.Op]<<12 + highs[x.Op]<<25 + x.Rd<<7 + x.Rs1<<15 + x.Rs2<<20
	s, _ := shapeOf(x.Op)
	for _, p := range s.stand {
		for bit := p[0]; bit <= p[1]; bit++ {
			w += x.Imm >> bit & 1 << (p[2] + bit - p[0])
		}
	}
	return w
}

// decodeOf a word (P11.3): of all ops the instruction that may be and has this word, if there is one. Its fields are those bits of the word at which they would stand.
func decodeOf(t *testing.T, w int) (api.Rv, api.Errno) {
	t.Helper()
	if w < 0 || w >= 1<<32 {
		return api.Rv{}, api.ErrRange
	}
	var found []api.Rv
	for op := api.RAdd; op <= api.REcall; op++ {
		s, _ := shapeOf(op)
		x := api.Rv{Op: op}
		for i, field := range []*int{&x.Rd, &x.Rs1, &x.Rs2} {
			if slices.Contains([]byte(s.has), "dab"[i]) {
				*field = w >> []int{7, 15, 20}[i] % 32
			}
		}
		width := 0
		for _, p := range s.stand {
			for bit := p[0]; bit <= p[1]; bit++ {
				x.Imm += w >> (p[2] + bit - p[0]) & 1 << bit
			}
			width = max(width, p[1]+1)
		}
		if x.Imm > s.most {
			x.Imm -= 1 << width
		}
		if checkOf(x) == api.OK && wordOf(x) == w {
			found = append(found, x)
		}
	}
	switch len(found) {
	case 0:
		return api.Rv{}, api.ErrKind
	case 1:
		return found[0], api.OK
	}
	t.Fatalf("%#x is the word of %v", w, found)
	return api.Rv{}, api.OK
}

// wantCheck: an instruction is refused so by Check, and by Encode.
func wantCheck(t *testing.T, x api.Rv, want api.Errno) {
	t.Helper()
	if e := rv.Check(x); e != want {
		t.Errorf("Check(%v): %v, want %v", x, e, want)
	}
	if w, e := rv.Encode(x); e != want || e != api.OK && w != 0 {
		t.Errorf("Encode(%v): %d %v, want %v", x, w, e, want)
	}
}

// wantWord: an instruction has this word, and the word is its.
func wantWord(t *testing.T, x api.Rv, want int) {
	t.Helper()
	wantCheck(t, x, api.OK)
	if w, _ := rv.Encode(x); w != want {
		t.Errorf("Encode(%v): %#x, want %#x", x, w, want)
	}
	if y, e := rv.Decode(want); e != api.OK || y != x {
		t.Errorf("Decode(%#x): %v %v, want %v", want, y, e, x)
	}
}

// wantNone: a word is refused so.
func wantNone(t *testing.T, w int, want api.Errno) {
	t.Helper()
	if x, e := rv.Decode(w); e != want || x != (api.Rv{}) {
		t.Errorf("Decode(%#x): %v %v, want %v", w, x, e, want)
	}
}

// wantTold: all answers about an instruction are those of the chapter's words.
func wantTold(t *testing.T, x api.Rv) api.Errno {
	t.Helper()
	want := checkOf(x)
	if want == api.OK {
		wantWord(t, x, wordOf(x))
	} else {
		wantCheck(t, x, want)
	}
	return want
}

// wantRead: what Decode answers to a word is what the chapter's words say, and has the word.
func wantRead(t *testing.T, w int) api.Errno {
	t.Helper()
	x, want := decodeOf(t, w)
	if want == api.OK {
		wantWord(t, x, w)
	} else {
		wantNone(t, w, want)
	}
	return want
}
