package flow

import (
	"slices"

	"tierline/api"
)

// standing: a question whether one block stands on each way from the first one to another (each one does on those to itself). A function has at most MaxCode blocks, so the bits of a number hold them; bits only ever fall, so the rounds come to an end.
func standing(l []api.Block) func(one, other int) bool {
	on := slices.Repeat([]int{-1}, len(l))
	on[0] = 1
	for again := true; again; {
		again = false
		for b := 1; b < len(l); b++ {
			left := 1<<b | onAll(on, l[b].Prev)
			again = again || left != on[b]
			on[b] = left
		}
	}
	return func(one, other int) bool { return on[other]>>one&1 != 0 }
}

// onAll: what stands on the ways to each of these blocks.
func onAll(on, blocks []int) int {
	bits := -1
	for _, b := range blocks {
		bits &= on[b]
	}
	return bits
}

// above: for each of so many blocks the nearest one that stands on each way to it.
func above(n int, stands func(one, other int) bool) []int {
	l := make([]int, n)
	for b := range l {
		l[b] = nearest(n, b, stands)
	}
	return l
}

// nearest of those that stand on each way to a block. Of any two of them one stands on each way to the other, so whichever comes later on the ways takes the place of the one that was the nearest so far.
func nearest(n, block int, stands func(one, other int) bool) int {
	near := noBlock
	for b := range n {
		if b != block && stands(b, block) && (near == noBlock || stands(near, b)) {
			near = b
		}
	}
	return near
}
