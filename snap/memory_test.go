package snap

import (
	"slices"
	"sync"
	"testing"

	"staithe/api"
)

// roomy answers a list with spare room behind it, filled with something to be
// watched.
func roomy[T any](all []T, spare ...T) []T {
	return append(append([]T(nil), all...), spare...)[:len(all)]
}

// shown answers all that a list has room for, on its own memory.
func shown[T any](all []T) []T { return append([]T(nil), all[:cap(all)]...) }

// fill writes x over all that a list has room for.
func fill[T any](all []T, x T) {
	all = all[:cap(all)]
	for i := range all {
		all[i] = x
	}
}

func TestMarksAndNumbersStay(t *testing.T) {
	lists := [][]int{nil, {3}, {1, 3, 4}, {4, 3, 1}, {2, 2}, {5, 0, 5, 1}}
	for _, one := range lists {
		for _, two := range lists {
			a, b := roomy(one, -7, 9), roomy(two, 8, -6, 7)
			seenA, seenB := shown(a), shown(b)
			due, reached, grows := Due(a, 3), Reached(a, 3), Grows(a, b)
			if !slices.Equal(shown(a), seenA) || !slices.Equal(shown(b), seenB) {
				wrong(t, "R4: behind the calls %v is %v, %v is %v", seenA, shown(a), seenB, shown(b))
			}
			// Nothing of a list that is written over stays behind.
			fill(a, 3)
			fill(b, 3)
			if Due(one, 3) != due || Reached(one, 3) != reached || Grows(one, two) != grows {
				wrong(t, "R5: of %v and %v, once these are written over, other answers", one, two)
			}
			if Due(a, 3) != (len(a) > 0) || Reached(a, 3) != len(a) || Grows(a, b) != (len(a) == 0 || len(b) > 0) {
				wrong(t, "R4: of %v and %v, written over by 3, the calls answer as before", one, two)
			}
		}
	}
}

func TestOneListHandedInTwice(t *testing.T) {
	all := roomy([]int{4, 1, 3}, 9, 2)
	seen := shown(all)
	if !Grows(all, all) || !Grows(all[:1], all) || Grows(all, all[:2]) || Grows(all, all[1:]) || !slices.Equal(shown(all), seen) {
		t.Errorf("R4: of pieces of one list, which is %v now", shown(all))
	}
}

// handed is what Of is handed.
type handed struct {
	p    []api.Ins
	runs [][]api.Pair
}

// roomyOf answers what Of is handed, with spare room in each list.
func roomyOf(p []api.Ins, runs [][]api.Pair) handed {
	h := handed{p: roomy(p, api.Ins{Op: 77, S: "spare"}, api.Ins{Op: api.OpDrop})}
	for _, run := range runs {
		h.runs = append(h.runs, roomy(run, list("a:spare", ":2", "z:spare")...))
	}
	h.runs = roomy(h.runs, list("spare:1"), nil)
	return h
}

// shown answers all that is handed in, on memory of its own.
func (h handed) shown() handed {
	s := handed{p: shown(h.p), runs: shown(h.runs)}
	for i, run := range s.runs {
		s.runs[i] = shown(run)
	}
	return s
}

func (h handed) same(o handed) bool {
	return slices.Equal(h.p, o.p) && slices.EqualFunc(h.runs, o.runs, slices.Equal[[]api.Pair])
}

// spoil writes over all that was handed in.
func (h handed) spoil() {
	fill(h.p, api.Ins{Op: api.OpInt, A: 5})
	for _, run := range h.runs {
		fill(run, api.Pair{Key: "spoiled", Value: "spoiled"})
	}
	fill(h.runs, list("spoiled:1"))
}

func TestRunsAndAnswersAreApart(t *testing.T) {
	one, two := list("a:2", "c:1", "c:0"), list("a:1", "b:3")
	for i, runs := range [][][]api.Pair{
		nil, {nil}, {one}, {list("k:v")}, {list("c:1", "a:1", "b:1")}, {one, two}, {one, nil}, {nil, one}, {nil, nil, two, nil}, {one, one, two, one},
		{list("a:1", "b:1"), list("c:1", "d:1")}, {list("c:1", "d:1"), list("a:1", "b:1")}, {list("a:1", "y:1"), list("b:1")},
	} {
		for _, p := range [][]api.Ins{nil, first(), each(), turns(api.Type, api.Big)} {
			h := roomyOf(p, runs)
			seen := h.shown()
			answer, why := Of(h.p, 99, h.runs...)
			again, _ := Of(h.p, 99, h.runs...)
			want := append([]api.Pair(nil), answer...)
			if !h.shown().same(seen) {
				wrong(t, "R4: behind Of row %d what was handed in is another", i)
			}
			more := append(answer, list("m:1", "n:2")...)
			fill(answer, api.Pair{Key: "over"})
			if !slices.Equal(again, want) || !h.shown().same(seen) {
				wrong(t, "R4: of row %d, an answer written over: %s, not %s", i, brief(again), brief(want))
			}
			fill(more, api.Pair{Key: "more"})
			if then, reason := Of(h.p, 99, h.runs...); !slices.Equal(then, want) || reason != why || !h.shown().same(seen) {
				wrong(t, "R4: of row %d, behind answers written over: %s, %d", i, brief(then), reason)
			}
			h.spoil()
			if !slices.Equal(again, want) {
				wrong(t, "R4: of row %d, what was handed in written over: %s, not %s", i, brief(again), brief(want))
			}
			if fresh, reason := Of(p, 99, runs...); !slices.Equal(fresh, want) || reason != why {
				wrong(t, "R5: of row %d, once it was written over: %s, %d", i, brief(fresh), reason)
			}
		}
	}
}

func TestRunsOfOneRoom(t *testing.T) {
	// Pieces of one list: an append onto the first would run into the next.
	ps := list("c:1", "d:2", "a:3", "b:4", "a:5", "e:6")
	stays := append([]api.Pair(nil), ps...)
	told, why := Of(each(), 99, ps[:2], ps[4:], ps[2:4])
	if !slices.Equal(told, list("a:5", "a:3", "b:4", "c:1", "d:2", "e:6")) || why != api.Fine || !slices.Equal(ps, stays) {
		t.Errorf("R4: Of pieces tells %s, %d, they are now of %q", brief(told), why, ps)
	}
}

// TestCallsAtOneTime has several goroutines, which share what they hand in.
func TestCallsAtOneTime(t *testing.T) {
	h := roomyOf(each(), [][]api.Pair{list("c:1", "a:1"), nil, list("a:0", "b:1"), list("c:2")})
	want := list("a:1", "a:0", "b:1", "c:1", "c:2")
	marks, more := roomy([]int{4, 1}, 9), roomy([]int{5, 1, 4}, 9)
	var all sync.WaitGroup
	for range 8 {
		all.Add(1)
		go func() {
			defer all.Done()
			for range 500 {
				told, why := Of(h.p, 99, h.runs...)
				if !slices.Equal(told, want) || why != api.Fine || !Due(marks, 4) || Reached(marks, 3) != 1 || !Grows(marks, more) || Grows(more, marks) {
					t.Errorf("R5: at one time: %s, %d", brief(told), why)
					return
				}
				fill(told, api.Pair{Key: "over"})
			}
		}()
	}
	all.Wait()
}
