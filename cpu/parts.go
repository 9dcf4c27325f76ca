package cpu

import "tierline/api"

// registers of a machine.
type registers [32]int

// put a number into a register. What is made in the register 0 is lost, as that is always 0.
func (r *registers) put(reg, v int) {
	if reg != 0 {
		r[reg] = v
	}
}

// wordBytes: addresses count bytes, and a word of the data has so many.
const wordBytes = 8

// data of a machine.
type data [api.Data]int

// load the word at an address.
func (d *data) load(address int) (int, api.Errno) {
	if !isWord(address) {
		return 0, api.ErrRange
	}
	return d[address/wordBytes], api.OK
}

// store a number as the word at an address.
func (d *data) store(address, v int) api.Errno {
	if !isWord(address) {
		return api.ErrRange
	}
	d[address/wordBytes] = v
	return api.OK
}

// isWord: does a word of the data begin at an address?
func isWord(address int) bool {
	return address >= 0 && address < wordBytes*api.Data && address%wordBytes == 0
}
