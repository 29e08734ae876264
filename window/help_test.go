package window

import (
	"fmt"
	"math"
	"slices"
	"testing"

	"staithe/api"
)

// The bounds, written out apart from package api: one that is taken by a wrong
// name is seen.
const (
	mostChunks = 40
	mostSize   = 4
)

// edges are numbers at the edges of their type, and some that only by their low
// bits are small.
func edges() []int {
	return []int{
		math.MinInt, math.MinInt + 1, math.MinInt + 3, math.MinInt32 - 1, math.MinInt32, math.MinInt32 + 1, -1 << 16, -65535, -256, -255,
		255, 256, 257, 258, 1 << 16, 1<<16 + 2, math.MaxInt32, math.MaxInt32 + 1, math.MaxUint32, math.MaxUint32 + 1, math.MaxUint32 + 3, 1 << 40, 1 << 62, math.MaxInt - 1, math.MaxInt,
	}
}

// about answers the numbers from two below x to two beyond it.
func about(x int) []int { return []int{x - 2, x - 1, x, x + 1, x + 2} }

// state is what a window is to tell, and what it keeps besides.
type state struct{ count, size, epoch, next int }

// open answers the chunks that may be pushed.
func (s state) open() []int {
	var is []int
	for i := s.next; i < s.count && len(is) < s.size; i++ {
		is = append(is, i)
	}
	return is
}

// wrong tells what is wrong; of one test just the first such thing.
func wrong(t *testing.T, form string, all ...any) {
	t.Helper()
	if !t.Failed() {
		t.Errorf(form, all...)
	}
}

// made answers a new window of s, brought by acks to where s is.
func made(t *testing.T, s state) *Window {
	t.Helper()
	w, e := New(s.count, s.size)
	if w == nil || e != api.OK {
		t.Fatalf("P17.1: New(%d, %d): no window, %d", s.count, s.size, e)
	}
	if s.epoch > 0 && !w.Ack(s.epoch, s.next) {
		wrong(t, "P17.1: the first Ack(%d, %d) of New(%d, %d): false", s.epoch, s.next, s.count, s.size)
	}
	ask(t, "acks up to there", w, s)
	return w
}

// brief answers the beginning of what is is.
func brief(is []int) string {
	return fmt.Sprintf("%d chunks, %v", len(is), is[:min(len(is), 9)])
}

// ask holds all that w tells against what it is to tell.
func ask(t *testing.T, what string, w *Window, s state) {
	t.Helper()
	if w.Next() != s.next || w.Epoch() != s.epoch || w.Done() != (s.next == s.count) {
		wrong(t, "P17.1: behind %s: Next %d, Epoch %d, Done %t, not as in %+v", what, w.Next(), w.Epoch(), w.Done(), s)
	}
	if got := w.Open(); !slices.Equal(got, s.open()) {
		wrong(t, "P17.1: behind %s: Open: %s, not %v, as in %+v", what, brief(got), s.open(), s)
	}
}

// ack holds what Ack answers against what it is to answer.
func ack(t *testing.T, w *Window, epoch, next int, want bool) {
	t.Helper()
	if got := w.Ack(epoch, next); got != want {
		wrong(t, "P17.1: Ack(%d, %d): %t", epoch, next, got)
	}
}

// fill writes x over all that a list has room for.
func fill(all []int, x int) {
	all = all[:cap(all)]
	for i := range all {
		all[i] = x
	}
}

// spoil appends to is, and writes over all that it has room for.
func spoil(is []int) {
	fill(append(is, -99), -98)
	fill(is, -97)
}
