package ssa

import "tierline/api"

// settled: the parts of a function, without the phis that go; their values have their first numbers still. With them comes which number a value gets, or what stands for it, and how many are left.
func (f function) settled() (parts []api.Part, number func(value int) int, values int) {
	parts = f.parts()
	stands := settle(parts)
	numbers := count(f.params, parts)
	number = func(value int) int {
		if value == none {
			return none
		}
		return numbers[stands(value)]
	}
	return parts, number, len(numbers)
}

// count anew the values that are left: parameters, then part by part phis, and what instructions make.
func count(params int, parts []api.Part) map[int]int {
	numbers := map[int]int{}
	next := func(value int) {
		n := len(numbers)
		numbers[value] = n
	}
	for r := range params {
		next(r)
	}
	for _, part := range parts {
		for _, phi := range part.Phis {
			next(phi.Id)
		}
		for _, x := range part.Ins {
			if x.Id != none {
				next(x.Id)
			}
		}
	}
	return numbers
}

func renumberParts(parts []api.Part, number func(value int) int) {
	for b := range parts {
		part := &parts[b]
		for i := range part.Phis {
			part.Phis[i].Id = number(part.Phis[i].Id)
			renumber(part.Phis[i].Args, number)
		}
		for i := range part.Ins {
			x := &part.Ins[i]
			x.Id, x.A, x.B = number(x.Id), number(x.A), number(x.B)
		}
		renumber(part.In[:], number)
	}
}

func renumber(values []int, number func(value int) int) {
	for i, value := range values {
		values[i] = number(value)
	}
}
