package emit

import "tierline/api"

// Where a state stands in the machine's Data. The code needs no words of its own: values that have no register of the machine stand in the words of the frame's registers.
const (
	memoryAt = 0
	regsAt   = memoryAt + api.Memory
	fuelAt   = regsAt + api.MaxRegs
	placeAt  = fuelAt + 1
)

// unreached: what flow tells of an instruction to which no way leads.
const unreached = -1

// dataOf a state and its last frame.
func dataOf(s api.State) [api.Data]int {
	var d [api.Data]int
	f := last(s)
	copy(d[memoryAt:], s.Memory[:])
	copy(d[regsAt:], f.Regs[:])
	d[fuelAt], d[placeAt] = s.Fuel, f.Pc
	return d
}

// mayLeave: do the Data tell of a place that is reached, and of no more fuel than there was?
func mayLeave(d [api.Data]int, live []int, fuel int) bool {
	pc := d[placeAt]
	return pc >= 0 && pc < len(live) && live[pc] != unreached && d[fuelAt] >= 0 && d[fuelAt] <= fuel
}

// regsOf the last frame, as the Data say: those that are live, as bits tell it, and noughts.
func regsOf(d [api.Data]int, live int) [api.MaxRegs]int {
	var l [api.MaxRegs]int
	for r := range l {
		if isLive(live, r) {
			l[r] = d[regsAt+r]
		}
	}
	return l
}

func isLive(bits, reg int) bool { return bits>>reg&1 != 0 }
