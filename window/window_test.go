package window

import (
	"math"
	"testing"
	"time"

	"staithe/api"
)

func TestTheChaptersExample(t *testing.T) {
	w := made(t, state{count: 5, size: 2})
	ask(t, "New", w, state{5, 2, 0, 0})
	ack(t, w, 1, 3, true)
	ask(t, "Ack(1, 3)", w, state{5, 2, 1, 3})
	ack(t, w, 1, 2, false)
	ack(t, w, 2, 0, true)
	ask(t, "Ack(2, 0)", w, state{5, 2, 2, 0})
}

func TestTheBounds(t *testing.T) {
	if api.MaxPairs != mostChunks || api.MaxWindow != mostSize {
		wrong(t, "api: %d pairs, a window of %d at most", api.MaxPairs, api.MaxWindow)
	}
}

func TestNewOfAllThatMayBe(t *testing.T) {
	for count := range mostChunks + 1 {
		for size := 1; size <= mostSize; size++ {
			w := made(t, state{count: count, size: size})
			if w.Done() != (count == 0) {
				wrong(t, "P17.1: Done of New(%d, %d): %t", count, size, w.Done())
			}
		}
	}
}

func TestNewOfWhatMayNotBe(t *testing.T) {
	counts := append(append(edges(), about(-2)...), 1, 2, 3, 4, 5)
	counts = append(counts, about(mostChunks)...)
	sizes := append(append(edges(), about(-1)...), 40, 41)
	sizes = append(sizes, about(mostSize)...)
	var countWrong, sizeWrong, bothWrong int
	for _, count := range counts {
		for _, size := range sizes {
			countMay, sizeMay := count >= 0 && count <= mostChunks, size >= 1 && size <= mostSize
			switch {
			case countMay && sizeMay:
				made(t, state{count: count, size: size})
				continue
			case sizeMay:
				countWrong++
			case countMay:
				sizeWrong++
			default:
				bothWrong++
			}
			if w, e := New(count, size); w != nil || e != api.ErrArg {
				wrong(t, "P17.1: New(%d, %d): a window %t, %d, not ErrArg", count, size, w != nil, e)
			}
		}
	}
	if min(countWrong, sizeWrong, bothWrong) < 50 {
		wrong(t, "what was asked is too much alike: %d, %d, %d", countWrong, sizeWrong, bothWrong)
	}
}

func TestTwoWindowsShareNothing(t *testing.T) {
	one, two := made(t, state{count: 9, size: 3}), made(t, state{count: 9, size: 3})
	ack(t, one, 4, 7, true)
	ask(t, "acks of another one", two, state{9, 3, 0, 0})
	ack(t, two, 2, 1, true)
	ask(t, "acks of this one", one, state{9, 3, 4, 7})
	ask(t, "acks of this one", two, state{9, 3, 2, 1})
	ask(t, "acks of others", made(t, state{count: 9, size: 2}), state{9, 2, 0, 0})
	spoil(one.Open())
	ask(t, "another one's answer written over", two, state{9, 3, 2, 1})
}

// TestOpenOfEachNext has fewer chunks left than the size, as many, more, and
// none.
func TestOpenOfEachNext(t *testing.T) {
	for count := range mostChunks + 1 {
		for size := 1; size <= mostSize; size++ {
			for next := range count + 1 {
				made(t, state{count, size, 1, next})
				made(t, state{count, size, math.MaxInt, next})
			}
		}
	}
}

func TestOpenAsItGoesOn(t *testing.T) {
	for size := 1; size <= mostSize; size++ {
		for _, step := range []int{1, 2, 3, 5, 7, 39, 40} {
			w := made(t, state{mostChunks, size, 1, 0})
			for next := step; next <= mostChunks; next += step {
				ack(t, w, 1, next, true)
				ask(t, "Ack by a step", w, state{mostChunks, size, 1, next})
			}
			w.Ack(1, mostChunks)
			ask(t, "Ack of all", w, state{mostChunks, size, 1, mostChunks})
			ack(t, w, 2, 0, true)
			ask(t, "Ack of none in a greater epoch", w, state{mostChunks, size, 2, 0})
			ack(t, w, 2, step, true)
			ask(t, "Ack by a step in a greater epoch", w, state{mostChunks, size, 2, step})
		}
	}
}

// TestAckOfEachEpochAndNext asks a window, wherever it may be, for acks of
// epochs and nexts below, just at, above and far from its own.
func TestAckOfEachEpochAndNext(t *testing.T) {
	for _, count := range []int{0, 1, 2, 5, mostChunks} {
		for _, epoch := range []int{0, 1, 2, 7, 1 << 40, math.MaxInt - 1, math.MaxInt} {
			for next := range count + 1 {
				if epoch == 0 && next > 0 {
					break
				}
				ackAll(t, state{count, 2, epoch, next})
				if t.Failed() {
					t.FailNow()
				}
			}
		}
	}
}

func ackAll(t *testing.T, s state) {
	t.Helper()
	nexts := append(append(edges(), about(0)...), about(s.next)...)
	nexts = append(nexts, about(s.count)...)
	epochs := append(append(edges(), about(0)...), s.epoch-99, s.epoch-2, s.epoch-1, s.epoch)
	if s.epoch < math.MaxInt-99 {
		epochs = append(epochs, s.epoch+1, s.epoch+2, s.epoch+99)
	}
	for _, epoch := range epochs {
		for _, next := range nexts {
			w := made(t, s)
			then, want := s.acked(epoch, next)
			ack(t, w, epoch, next, want)
			ask(t, "an ack", w, then)
			ack(t, w, epoch, next, false)
			ask(t, "the same ack twice", w, then)
			if t.Failed() {
				t.Fatalf("P17.1: Ack(%d, %d) of %+v", epoch, next, s)
			}
		}
	}
}

// TestWhatIsWantedInOneEpoch has acks of one epoch in any order: what is wanted
// never falls.
func TestWhatIsWantedInOneEpoch(t *testing.T) {
	w := made(t, state{6, 3, 4, 2})
	for _, x := range []struct {
		next int
		ok   bool
		then int
	}{{1, false, 2}, {2, false, 2}, {3, true, 3}, {0, false, 3}, {-1, false, 3}, {math.MinInt, false, 3}, {5, true, 5}, {3, false, 5}, {6, true, 6}, {5, false, 6}, {6, false, 6}, {7, false, 6}, {math.MaxInt, false, 6}} {
		ack(t, w, 4, x.next, x.ok)
		ask(t, "acks of one epoch", w, state{6, 3, 4, x.then})
	}
}

func TestWhatIsWantedInAGreaterEpoch(t *testing.T) {
	w := made(t, state{6, 3, 1, 6})
	for _, x := range []struct{ epoch, next, then int }{{2, 3, 3}, {3, 3, 3}, {5, 0, 0}, {9, -4, 0}, {10, 6, 6}, {11, math.MaxInt, 6}, {12, math.MinInt, 0}, {1 << 40, 7, 6}, {math.MaxInt, 1, 1}} {
		ack(t, w, x.epoch, x.next, true)
		ask(t, "an ack of a greater epoch", w, state{6, 3, x.epoch, x.then})
	}
	ack(t, w, math.MaxInt-1, 6, false)
	ask(t, "an ack of the epoch before", w, state{6, 3, math.MaxInt, 1})
}

// TestAckBeyondAllIsThatOfAll has a next that is clipped: behind it no ack of
// the same epoch is more.
func TestAckBeyondAllIsThatOfAll(t *testing.T) {
	for _, next := range []int{4, 5, 6, 44, math.MaxInt32 + 1, math.MaxInt} {
		for _, epoch := range []int{1, 2} {
			w := made(t, state{4, 4, 1, 3})
			ack(t, w, epoch, next, true)
			ask(t, "an ack beyond all", w, state{4, 4, epoch, 4})
			ack(t, w, epoch, 4, false)
			ack(t, w, epoch, math.MaxInt, false)
			ask(t, "an ack beyond all twice", w, state{4, 4, epoch, 4})
		}
	}
}

func TestAckOfNoChunks(t *testing.T) {
	w := made(t, state{count: 0, size: 4})
	for epoch := 1; epoch < 5; epoch++ {
		ack(t, w, epoch, 5-2*epoch, true)
		ack(t, w, epoch, 9, false)
		ask(t, "an ack of a window without chunks", w, state{0, 4, epoch, 0})
	}
}

func TestAskingChangesNothing(t *testing.T) {
	s := state{9, 4, 3, 4}
	w := made(t, s)
	for range 5 {
		ask(t, "asking", w, s)
		ack(t, w, 2, 9, false)
		ack(t, w, 0, 9, false)
		ack(t, w, -3, 0, false)
		ack(t, w, 3, 4, false)
	}
}

func TestNilWindow(t *testing.T) {
	var none *Window
	all := append(append(edges(), about(0)...), 9)
	for _, epoch := range all {
		for _, next := range all {
			if none.Ack(epoch, next) {
				t.Fatalf("R3: Ack(%d, %d): true", epoch, next)
			}
		}
	}
	if got := none.Open(); len(got) != 0 {
		wrong(t, "R3: Open: %s", brief(got))
	}
	if none.Next() != 0 || none.Epoch() != 0 || none.Done() {
		wrong(t, "R3: Next %d, Epoch %d, Done %t", none.Next(), none.Epoch(), none.Done())
	}
}

// TestSizes has many calls, of numbers as great as may be: all ends in a time
// that the sizes explain.
func TestSizes(t *testing.T) {
	begun := time.Now()
	w := made(t, state{count: mostChunks, size: mostSize})
	for i := range 1_000_000 {
		epoch := math.MaxInt - 1_000_000 + i
		ack(t, w, epoch, -epoch, true)
		ack(t, w, epoch, epoch, true)
		ack(t, w, epoch-1, 0, false)
		if w.Next() != mostChunks || w.Epoch() != epoch || !w.Done() || len(w.Open()) != 0 || t.Failed() {
			t.Fatalf("P17.1: behind acks of epoch %d: Next %d, Epoch %d", epoch, w.Next(), w.Epoch())
		}
	}
	if took := time.Since(begun); took > 10*time.Second {
		wrong(t, "R1: a million acks took %v", took)
	}
}
