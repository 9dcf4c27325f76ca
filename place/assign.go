package place

// assign places to values, in their order: to each the lowest one that is not taken by an earlier one with which it clashes. As many as these are there are places taken at most, so that none is greater than that.
func assign(clashes [][]int) []int {
	places := make([]int, len(clashes))
	for value, others := range clashes {
		taken := map[int]struct{}{}
		for _, other := range others {
			if other < value {
				taken[places[other]] = struct{}{}
			}
		}
		places[value] = lowest(taken)
	}
	return places
}

// lowest place that is not taken.
func lowest(taken map[int]struct{}) int {
	place := 0
	for _, ok := taken[place]; ok; _, ok = taken[place] {
		place++
	}
	return place
}
