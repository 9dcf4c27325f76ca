package sheet_test

import (
	"fmt"
	"reflect"
	"strings"
	"testing"

	"tierline/api"
	"tierline/drawn"
	"tierline/sheet"
)

// wrongLines: none of them is in form, wherever it stands.
var wrongLines = []string{
	"", " ", "  ", "\t", "\r", "\x00", "\xff", ";", "# a remark",
	"nop", "r0", "0", "Ret r0", "RET r0", "re r0", "rets r0", "retr0", "ret\tr0", "neg r0 r1", "addi r0 r0 1",
	" ret r0", "ret r0 ", "ret  r0", "ret r0\r", "ret r0;", "ret r0 r1", "ret r0 0", "ret", "ret ",
	"ret 0", "ret R0", "ret r", "ret rr0", "ret r 0", "ret r00", "ret r01", "ret r+1", "ret r-0", "ret r-01", "ret r-", "ret r--1", "ret r0x1", "ret r1_0", "ret r1.", "ret r1e0", "ret ra",
	"ret r٣", "ret r１", "ret r−1", "ret r0\u00a0", "ret\u00a0r0",
	"ret r9223372036854775808", "ret r-9223372036854775809", "ret r18446744073709551615", "ret r99999999999999999999999999",
	"set r0", "set r0 ", "set r0 r1", "set 0 1", "set r0 +1", "set r0 01", "set r0 00", "set r0 -0", "set r0 -00", "set r0 -01", "set r0 - 1", "set r0 --1", "set r0 0x1", "set r0 0b1", "set r0 0o7", "set r0 1_000", "set r0 1.0", "set r0 1e3", "set r0 1 ", "set r0  1", "set r0 1 2", "set r0 ", "set r0 ,1",
	"set r0 9223372036854775808", "set r0 -9223372036854775809", "set r0 18446744073709551616", "set r0 18446744073709551615", "set r0 99999999999999999999",
	"set 1 r0", "add r0 r1", "add r0 r1 r2 r3", "add r0 r1 2", "add r0, r1, r2", "add r0 r1 r2 ", "and r0 r1", "load r0", "load r0 0", "load r0 r1 r2", "store r0", "store r0 r1 r2", "host r0", "host r0 r1 r2",
	"jump", "jump r0", "jump 0 0", "jump 00", "jump -0", "jump +0", "jump 9223372036854775808", "if r0", "if r0 r0", "if 0 r0", "if r0 0 0", "if 0", "if r0 00",
	"call r0 r0 r0 0", "call r0 r0 r0", "call r0 0 r0", "call r0 0", "call r0 0 r0 r0 r0", "call 0 0 r0 r0", "call r0 00 r0 r0", "call r0 -0 r0 r0", "call r0 r0 0 r0",
	"func", "func ", "func 1", "func 1 ", "func 1 2 3", "func 1 2 ", "func  1 2", "func 1  2", " func 1 2", "Func 1 2", "func r1 2", "func 1 r2", "func 01 2", "func 1 02", "func +1 2", "func 1 +2", "func -0 1", "func 0 -0",
	"func -1 2", "func 1 -1", "func -1 -1", "func -9223372036854775808 2", "func 1 -9223372036854775808", "func 9223372036854775808 1", "func 1 9223372036854775808", "func 1 0x2", "func 1 2:", "function 1 2", "func1 2",
}

// TestWrongLines (P2.3): ErrForm at the line's place, at a text's beginning, within it, and at its end; ahead of what Check refuses.
func TestWrongLines(t *testing.T) {
	for _, l := range wrongLines {
		wantRefused(t, l+"\n", 0, api.ErrForm)
		wantRefused(t, l+"\nfunc 1 2\nret r0\n", 0, api.ErrForm)
		wantRefused(t, "func 1 2\n"+l+"\nret r0\n", 1, api.ErrForm)
		wantRefused(t, "func 1 2\nret r0\n"+l+"\n", 2, api.ErrForm)
		wantRefused(t, "func 9 99\nret r99\n"+l+"\nret\n", 2, api.ErrForm)
		wantRefused(t, "func 1 2\nret r0\nfunc 0 1\nret r0\n"+l+"\n"+l+"\n", 4, api.ErrForm)
	}
}

// TestLineFeed (P2.3): a last line without a line feed is ErrForm; a line feed alone is a line, too.
func TestLineFeed(t *testing.T) {
	for _, c := range []struct {
		s     string
		place int
	}{
		{"func 1 2\nret r0", 1},
		{"func 1 2", 0},
		{"f", 0},
		{"func 1 2\nret r0\nfunc 0 1", 2},
		{"func 1 2\nret r0\n\n", 2},
		{"\nfunc 1 2\nret r0\n", 0},
		{"func 1 2\n\nret r0\n", 1},
		{"\n", 0},
		{"\n\n", 0},
		{"func 1 2\r\nret r0\r\n", 0},
		{"func 1 2\rret r0\n", 0},
		{"func 1 2\vret r0\n", 0},
		{"func 1 2\u2028ret r0\n", 0},
	} {
		wantRefused(t, c.s, c.place, api.ErrForm)
	}
}

// TestBeginnings (P2.3): a text cut off within a line is refused at this line's place; cut off behind one, it is in form.
func TestBeginnings(t *testing.T) {
	d := drawn.Die(22)
	for _, p := range []api.Program{longest(), drawn.Program(&d), drawn.Program(&d)} {
		s := shown(t, p)
		for n := range s {
			if n == 0 || s[n-1] == '\n' {
				if _, place, e := sheet.Read(s[:n]); place != 0 || e == api.ErrForm {
					t.Errorf("Read(%q): place %d, %v", s[:n], place, e)
				}
				continue
			}
			wantRefused(t, s[:n], strings.Count(s[:n], "\n"), api.ErrForm)
		}
	}
}

// TestFirstFunction (P2.3): an instruction ahead of the first function's line.
func TestFirstFunction(t *testing.T) {
	for _, c := range eachOp {
		wantRefused(t, c.line+"\n", 0, api.ErrForm)
		wantRefused(t, c.line+"\nfunc 2 12\n"+c.line+"\n", 0, api.ErrForm)
	}
}

// TestSize (P2.3): a text of MaxText bytes is read, a longer one is ErrSize at place 0, ahead of all else.
func TestSize(t *testing.T) {
	most := "func 0 0\n" + strings.Repeat("ret r0\n", 1426) + "ret r100\n" // Check refuses its registers, ahead of how many lines there are
	if len(most) != api.MaxText {
		t.Fatalf("%d bytes, want MaxText", len(most))
	}
	wantRefused(t, most, 0, api.ErrRange)
	wantRefused(t, most[:api.MaxText-1], 1427, api.ErrForm)
	wantRefused(t, most[:api.MaxText-1]+"0\n", 0, api.ErrSize)
	wantRefused(t, most[:api.MaxText-1]+"00", 0, api.ErrSize)
	wantRefused(t, strings.Repeat("\n", api.MaxText), 0, api.ErrForm)
	wantRefused(t, strings.Repeat("\n", api.MaxText+1), 0, api.ErrSize)
	wantRefused(t, strings.Repeat("x", 1<<20), 0, api.ErrSize)
	wantRefused(t, strings.Repeat("\u00e9", api.MaxText/2), 0, api.ErrForm)
	wantRefused(t, strings.Repeat("\u00e9", api.MaxText/2)+"e", 0, api.ErrSize)
}

// TestReadRefuses (P2.3): in form, but refused by Check: with its error, at place 0. A line may have any numbers of 64 bits.
func TestReadRefuses(t *testing.T) {
	for _, c := range []struct {
		s    string
		want api.Errno
	}{
		{"", api.ErrSize},
		{"func 1 2\n", api.ErrSize},
		{"func 1 2\nret r0\nfunc 1 2\n", api.ErrSize},
		{"func 1 2\nfunc 1 2\nret r0\n", api.ErrSize},
		{strings.Repeat("func 0 1\nret r0\n", api.MaxFuncs+1), api.ErrSize},
		{strings.Repeat("func 0 1\n", 1111), api.ErrSize},
		{"func 0 1\n" + strings.Repeat("ret r0\n", api.MaxCode+1), api.ErrSize},
		{"func 0 0\nret r0\n", api.ErrRange},
		{"func 0 0\n", api.ErrRange},
		{"func 0 13\nret r0\n", api.ErrRange},
		{"func 3 5\nret r0\n", api.ErrRange},
		{"func 2 1\nret r0\n", api.ErrRange},
		{"func 9223372036854775807 9223372036854775807\nret r0\n", api.ErrRange},
		{"func 1 2\nret r2\n", api.ErrRange},
		{"func 1 2\nret r-1\n", api.ErrRange},
		{"func 1 2\nret r9223372036854775807\n", api.ErrRange},
		{"func 1 2\nret r-9223372036854775808\n", api.ErrRange},
		{"func 1 2\nset r2 0\n", api.ErrRange},
		{"func 1 2\nset r-1 0\n", api.ErrRange},
		{"func 1 2\nadd r0 r2 r0\n", api.ErrRange},
		{"func 1 2\nadd r0 r0 r-7\n", api.ErrRange},
		{"func 1 2\njump 1\n", api.ErrRange},
		{"func 1 2\njump -1\n", api.ErrRange},
		{"func 1 2\njump -9223372036854775808\n", api.ErrRange},
		{"func 1 2\nif r0 1\n", api.ErrRange},
		{"func 1 2\ncall r0 1 r0 r0\n", api.ErrRange},
		{"func 1 2\ncall r0 -1 r0 r0\n", api.ErrRange},
		{"func 1 2\nret r0\nfunc 1 2\nret r2\n", api.ErrRange},
		{"func 1 2\nret r2\nfunc 1 2\n", api.ErrRange},
		{"func 1 2\nfunc 1 2\nret r2\n", api.ErrSize},
	} {
		wantRefused(t, c.s, 0, c.want)
	}
}

// TestReadAccepts (P2.3): ordinary texts, and those at the limits.
func TestReadAccepts(t *testing.T) {
	for _, s := range []string{
		"func 0 1\nret r0\n",
		"func 2 2\nret r1\n",
		"func 2 12\nret r11\n",
		"func 0 1\njump 0\n",
		"func 0 1\n" + strings.Repeat("ret r0\n", api.MaxCode),
		strings.Repeat("func 0 1\nret r0\n", api.MaxFuncs),
		"func 0 1\ncall r0 1 r0 r0\nfunc 1 1\ncall r0 0 r0 r0\n",
		"func 0 1\nset r0 9223372036854775807\nset r0 -9223372036854775808\nset r0 -1\nset r0 0\nset r0 10\n",
	} {
		if got := shown(t, read(t, s)); got != s {
			t.Errorf("%q is shown as %q", s, got)
		}
	}
}

// TestShownAsItWas (P2.2, P2.3): texts with some bytes changed never panic; what is read is shown as it was.
func TestShownAsItWas(t *testing.T) {
	d := drawn.Die(23)
	pieces := []string{"", " ", "0", "1", "-", "r", "\n", "func 1 2\n", "ret r0\n", "set", "\xff"}
	right := 0
	for range 5000 {
		s := shown(t, drawn.Program(&d))
		for range d.Below(3) {
			k := d.Below(len(s))
			s = s[:k] + pieces[d.Below(len(pieces))] + s[k+d.Below(2):]
		}
		p, place, e := sheet.Read(s)
		if e != api.OK {
			wantRefused(t, s, place, e)
			continue
		}
		if right++; place != 0 || shown(t, p) != s {
			t.Fatalf("%q is read as %v at place %d", s, p, place)
		}
	}
	if right < 500 {
		t.Errorf("only %d of the texts were programs'", right)
	}
}

// TestNewMemory: no answer shares memory with another one, or within itself, spare room neither.
func TestNewMemory(t *testing.T) {
	s := shown(t, drawn.Greatest())
	p, q := read(t, s), read(t, s)
	for i, f := range p.Funcs {
		rest := fmt.Sprint(p.Funcs[i+1:])
		clear(f.Code[:cap(f.Code)])
		if fmt.Sprint(p.Funcs[i+1:]) != rest {
			t.Errorf("functions behind %d changed with its code", i)
		}
	}
	clear(p.Funcs[:cap(p.Funcs)])
	if !reflect.DeepEqual(q, drawn.Greatest()) {
		t.Errorf("an answer changed with another one: %v", q)
	}
}

// FuzzRead (P2.3): whatever the text is, Read ends, and what it answers holds together.
func FuzzRead(f *testing.F) {
	f.Add("")
	f.Add("func 1 2\nset r1 -5\nadd r0 r0 r1\nret r0\n")
	f.Fuzz(func(t *testing.T, s string) {
		p, place, e := sheet.Read(s)
		if e != api.OK {
			wantRefused(t, s, place, e)
			return
		}
		if got := shown(t, p); got != s {
			t.Errorf("%q is shown as %q", s, got)
		}
	})
}
