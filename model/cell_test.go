package model

import (
	"slices"
	"sync"
	"sync/atomic"
	"testing"

	"staithe/api"
)

func TestACellIsMadeOnceWhenAsked(t *testing.T) {
	calls := 0
	c := newCell(func() output {
		calls++
		return output{pairs: list("a:1"), why: calls}
	})
	if calls != 0 {
		t.Errorf("Ways: %d calls ahead of the first ask", calls)
	}
	for range 3 {
		if o := c.get(); !slices.Equal(o.pairs, list("a:1")) || o.why != 1 || calls != 1 {
			t.Errorf("Ways: %v, %d calls", o, calls)
		}
	}
}

func TestACellForManyAtOneTime(t *testing.T) {
	var calls, bad atomic.Int64
	c := newCell(func() output { return output{why: int(calls.Add(1))} })
	var all sync.WaitGroup
	for range 12 {
		all.Go(func() {
			if c.get().why != 1 {
				bad.Add(1)
			}
		})
	}
	all.Wait()
	if calls.Load() != 1 || bad.Load() != 0 {
		t.Errorf("Ways: %d calls, %d other answers", calls.Load(), bad.Load())
	}
}

func TestOnlyTheCellsThatAreAskedAreMade(t *testing.T) {
	var calls [5]int
	cells := newCells(len(calls), func(i int) output {
		calls[i]++
		if i == 2 {
			return output{why: api.Big}
		}
		return output{}
	})
	for range 2 {
		if why, ahead := firstReason(cells); why != api.Big || ahead != 2 {
			t.Errorf("Ways: %d, %d ahead", why, ahead)
		}
	}
	if calls != [5]int{1, 1, 1, 0, 0} {
		t.Errorf("Ways: calls of f by cells: %v", calls)
	}
	if why, ahead := firstReason(cells[3:]); why != api.Fine || ahead != 0 {
		t.Errorf("Ways: %d, %d ahead", why, ahead)
	}
}
