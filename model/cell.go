package model

import (
	"sync"

	"staithe/api"
)

// output is what a split or a part comes to: its pairs and api.Fine, or none
// and the reason.
type output struct {
	pairs []api.Pair
	why   int
}

// cell is an output that is made when it is first asked for, and kept: all
// parts ask for each split's, and a call that asks for few makes no others.
type cell struct {
	once sync.Once
	f    func() output
	made output
}

func newCell(f func() output) *cell { return &cell{f: f} }

func (c *cell) get() output {
	c.once.Do(func() { c.made = c.f() })
	return c.made
}

// newCells answers n cells, each of what f answers of its number.
func newCells(n int, f func(i int) output) []*cell {
	var cells []*cell
	for i := range n {
		cells = append(cells, newCell(func() output { return f(i) }))
	}
	return cells
}

// firstReason answers the first reason that one of the cells has, and how many
// are ahead of that one; api.Fine and 0, if there is none.
func firstReason(cells []*cell) (why, ahead int) {
	for i, c := range cells {
		if why := c.get().why; why != api.Fine {
			return why, i
		}
	}
	return api.Fine, 0
}

// pairsOf answers the pairs of each of the cells.
func pairsOf(cells []*cell) [][]api.Pair {
	var all [][]api.Pair
	for _, c := range cells {
		all = append(all, c.get().pairs)
	}
	return all
}
