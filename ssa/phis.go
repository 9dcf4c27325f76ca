package ssa

import "tierline/api"

// settle which phis go, and take them away: it answers what stands for a value now. What comes in place of a phi has not gone itself by then, so that from each value one that is left is come to.
func settle(parts []api.Part) func(value int) int {
	gone := map[int]int{}
	stands := func(value int) int {
		for other, ok := gone[value]; ok; other, ok = gone[value] {
			value = other
		}
		return value
	}
	left := func(phis []api.Phi) []api.Phi {
		var l []api.Phi
		for _, phi := range phis {
			if one := lone(phi, stands); one != none {
				gone[phi.Id] = one
			} else {
				l = append(l, phi)
			}
		}
		return l
	}
	for before := -1; before < len(gone); {
		before = len(gone)
		for b := range parts {
			parts[b].Phis = left(parts[b].Phis)
		}
	}
	return stands
}

// lone: the only value that comes to a phi, but for itself; none, if there are more.
func lone(phi api.Phi, stands func(value int) int) int {
	one := none
	for _, arg := range phi.Args {
		value := stands(arg)
		if value == phi.Id || value == one {
			continue
		}
		if one != none {
			return none
		}
		one = value
	}
	return one
}
