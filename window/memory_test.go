package window

import (
	"slices"
	"sync"
	"testing"
)

// TestWhatOpenAnswersIsItsOwn writes over, and appends to, an answer of a
// window, wherever it may be: neither the window nor another answer is changed.
func TestWhatOpenAnswersIsItsOwn(t *testing.T) {
	for size := 1; size <= mostSize; size++ {
		for next := range 7 {
			s := state{6, size, 3, next}
			w := made(t, s)
			first, second := w.Open(), w.Open()
			more := append(w.Open(), 70, 71)
			spoil(first)
			ask(t, "an answer of Open, written over", w, s)
			if !slices.Equal(second, s.open()) || !slices.Equal(more, append(s.open(), 70, 71)) {
				wrong(t, "R4: with an answer of Open, written over, others are changed: %s; %s", brief(second), brief(more))
			}
			one, two := append(second, 80), append(w.Open(), 90)
			if !slices.Equal(one, append(s.open(), 80)) || !slices.Equal(two, append(s.open(), 90)) {
				wrong(t, "R4: two answers of Open, appended to: %s; %s", brief(one), brief(two))
			}
		}
	}
}

func TestAnswersStandWhateverComes(t *testing.T) {
	w := made(t, state{9, 3, 1, 2})
	open := w.Open()
	for _, x := range [][2]int{{1, 3}, {1, 8}, {1, 1}, {2, 0}, {2, 9}, {5, 2}} {
		w.Ack(x[0], x[1])
		spoil(w.Open())
		if !slices.Equal(open, []int{2, 3, 4}) {
			t.Fatalf("R4: behind Ack(%d, %d) an earlier answer is another one: %s", x[0], x[1], brief(open))
		}
	}
}

// TestWindowsAtOneTime has several goroutines, each with a window of its own.
func TestWindowsAtOneTime(t *testing.T) {
	var all sync.WaitGroup
	for g := range 8 {
		all.Add(1)
		go func() {
			defer all.Done()
			s := state{count: 10 + g, size: 1 + g%mostSize}
			w, _ := New(s.count, s.size)
			for i := range 2000 {
				epoch, next := 1+i/20, i%20
				then, want := s.acked(epoch, next)
				ack(t, w, epoch, next, want)
				ask(t, "acks at one time", w, then)
				spoil(w.Open())
				if s = then; t.Failed() {
					return
				}
			}
		}()
	}
	all.Wait()
}
