package flow

import "tierline/api"

func loops(l []api.Block, stands func(one, other int) bool) [][]int {
	var all [][]int
	for b, block := range l {
		for _, head := range block.Next {
			if stands(head, b) {
				all = append(all, loop(l, head, b))
			}
		}
	}
	return all
}

// loop that a block closes by leading to its head: the head, and what comes to the block without it. The function's beginning, which is no block, is never come to from there, as the head stands on each way from the first block.
func loop(l []api.Block, head, closing int) []int {
	in := make([]bool, len(l))
	in[head] = true
	for work := []int{closing}; len(work) > 0; {
		b := work[len(work)-1]
		work = work[:len(work)-1]
		if !in[b] {
			in[b] = true
			work = append(work, l[b].Prev...)
		}
	}
	members := []int{head}
	for b, belongs := range in {
		if belongs && b != head {
			members = append(members, b)
		}
	}
	return members
}
