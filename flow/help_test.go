package flow_test

import (
	"fmt"
	"slices"
	"strings"
	"testing"

	"tierline/api"
	"tierline/flow"
	"tierline/told"
)

const (
	counted = told.Counted
	diamond = told.Diamond
	nested  = told.Nested
	crossed = told.Crossed
	still   = told.Still
)

// blocksOf a function, by its words (P7.2): each pair of blocks is asked whether the one leads to the other.
func blocksOf(f api.Func) []api.Block {
	var l []api.Block
	begins := told.Begins(f)
	for pc := range f.Code {
		if begins[pc] {
			l = append(l, api.Block{From: pc})
		}
	}
	for i := range l {
		to := l[i].From + 1
		for !begins[to] && !told.Ends(f.Code[to-1].Op) {
			to++
		}
		l[i].To = to
	}
	l[0].Prev = []int{-1}
	for i := range l {
		for j := range l {
			if slices.Contains(told.Behind(f, l[i].To-1), l[j].From) {
				l[i].Next = append(l[i].Next, j)
				l[j].Prev = append(l[j].Prev, i)
			}
		}
	}
	return l
}

// comes: is there a way from one block to another on which a third one does not lie (-1: any way)?
func comes(l []api.Block, from, to, without int) bool {
	seen := make([]bool, len(l))
	var goOn func(b int) bool
	goOn = func(b int) bool {
		if b == without || seen[b] {
			return false
		}
		seen[b] = true
		return b == to || slices.ContainsFunc(l[b].Next, goOn)
	}
	return goOn(from)
}

// onEachWay: does a block stand on each way from the first one to another, by its words (P7.3)?
func onEachWay(l []api.Block, one, other int) bool { return !comes(l, 0, other, one) }

// aboveOf each block, by its words (P7.3).
func aboveOf(l []api.Block) []int {
	var all []int
	for b := range l {
		var stand []int
		for a := range l {
			if a != b && onEachWay(l, a, b) {
				stand = append(stand, a)
			}
		}
		near := -1
		for _, a := range stand {
			if !slices.ContainsFunc(stand, func(c int) bool { return !onEachWay(l, c, a) }) {
				near = a
			}
		}
		all = append(all, near)
	}
	return all
}

// loopsOf a function's blocks, by their words (P7.5).
func loopsOf(l []api.Block) [][]int {
	var all [][]int
	for b := range l {
		for _, head := range l[b].Next {
			if head != b && !onEachWay(l, head, b) {
				continue
			}
			in := []int{head}
			for c := range l {
				if c != head && comes(l, c, b, head) {
					in = append(in, c)
				}
			}
			all = append(all, in)
		}
	}
	return all
}

// same: a list without elements may be nil or not, which a text does not tell.
func same(a, b any) bool { return fmt.Sprint(a) == fmt.Sprint(b) }

// answers of all calls about a function, and their errors.
func answers(p api.Program, fn int) string {
	a, e := flow.Blocks(p, fn)
	b, f := flow.Above(p, fn)
	c, g := flow.Live(p, fn)
	d, h := flow.Loops(p, fn)
	return fmt.Sprint(a, b, c, d, int(e), int(f), int(g), int(h))
}

// wantFlow: the answers of all calls about a function are those of the chapter's words.
func wantFlow(t *testing.T, p api.Program, fn int) (blocks []api.Block, above []int, loops [][]int) {
	t.Helper()
	f := p.Funcs[fn]
	blocks = blocksOf(f)
	above, loops = aboveOf(blocks), loopsOf(blocks)
	if got, want := answers(p, fn), fmt.Sprint(blocks, above, told.LiveOf(p, f), loops, 0, 0, 0, 0); got != want {
		t.Errorf("%v, function %d: %s, want %s", p, fn, got, want)
	}
	return blocks, above, loops
}

// wantRefused: all calls refuse it alike, and answer nothing.
func wantRefused(t *testing.T, p api.Program, fn int, want api.Errno) {
	t.Helper()
	n := int(want)
	if got, want := answers(p, fn), fmt.Sprint([]int{}, []int{}, []int{}, []int{}, n, n, n, n); got != want {
		t.Errorf("%v, function %d: %s, want %s", p, fn, got, want)
	}
}

// ladder: a function of MaxCode blocks, each of which leads to the next one, and to one that is asked for.
func ladder(to func(pc int) int) string {
	s := "func 1 1\n"
	for pc := range api.MaxCode - 1 {
		s += fmt.Sprintf("if r0 %d\n", to(pc))
	}
	return s + "ret r0\n"
}

// lines of a function with as many instructions as there may be: one of them again and again, between others.
func lines(ahead, line, behind string) string {
	n := api.MaxCode - strings.Count(ahead+behind, "\n") + 1
	return ahead + strings.Repeat(line, n) + behind
}
