// Package code: byte code, and programs as bytes.
package code

import "tierline/api"

// Check the shape of a program.
func Check(p api.Program) api.Errno {
	if len(p.Funcs) < 1 || len(p.Funcs) > api.MaxFuncs {
		return api.ErrSize
	}
	for _, f := range p.Funcs {
		if e := checkFunc(f, len(p.Funcs)); e != api.OK {
			return e
		}
	}
	return api.OK
}

// Encode a program.
func Encode(p api.Program) ([]byte, api.Errno) {
	if e := Check(p); e != api.OK {
		return nil, e
	}
	l := []byte{byte(len(p.Funcs))}
	for _, f := range p.Funcs {
		l = append(l, byte(f.Params), byte(f.Regs), byte(len(f.Code)))
		for _, x := range f.Code {
			l = appendInstr(l, x)
		}
	}
	return l, api.OK
}

// Decode a program.
func Decode(l []byte) (p api.Program, e api.Errno) {
	if len(l) > api.MaxBytes {
		return api.Program{}, api.ErrSize
	}
	defer func() {
		// What else might panic is a fault of the reader: the assertion keeps it from passing for bytes that end too early.
		if why := recover(); why != nil {
			p, e = api.Program{}, why.(api.Errno)
		}
	}()
	r := reader{bytes: l}
	p = r.program()
	if r.at < len(l) {
		return api.Program{}, api.ErrForm
	}
	if e = Check(p); e != api.OK {
		return api.Program{}, e
	}
	return p, api.OK
}
