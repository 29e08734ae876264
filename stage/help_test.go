package stage

import (
	"fmt"
	"math"
	"slices"
	"strconv"
	"testing"

	"staithe/api"
)

// The bounds, written out apart from package api: one that is taken by a wrong
// name is seen.
const (
	mostSplits = 6
	mostTries  = 3
	mostChunks = 40
)

// edges are numbers at the edges of their type, and some that only by their low
// bits are small.
func edges() []int {
	return []int{
		math.MinInt, math.MinInt + 1, math.MinInt + 2, math.MinInt32 - 1, math.MinInt32, math.MinInt32 + 1, -1 << 16, -65535, -256, -255, -254,
		255, 256, 257, 258, 1 << 16, 1<<16 + 2, math.MaxInt32, math.MaxInt32 + 1, math.MaxUint32, math.MaxUint32 + 1, math.MaxUint32 + 2, math.MaxUint32 + 3, 1 << 40, 1 << 62, math.MaxInt - 1, math.MaxInt,
	}
}

// about answers the numbers from two below x to two beyond it.
func about(x int) []int { return []int{x - 2, x - 1, x, x + 1, x + 2} }

// splitsAsked, attemptsAsked and seqsAsked are numbers that there are, and
// others: next to those, and far from them.
func splitsAsked() []int {
	return slices.Concat(edges(), about(0), []int{3}, about(mostSplits), []int{mostChunks})
}

func attemptsAsked() []int {
	return slices.Concat(edges(), []int{-3, -2, -1}, about(2), about(mostSplits), []int{mostChunks})
}

func seqsAsked(next int) []int {
	return slices.Concat(edges(), about(0), about(next), about(mostChunks))
}

// chunk answers so many pairs that are told apart from those of other numbers;
// they are in no order of keys or values.
func chunk(n, size int) []api.Pair {
	var ps []api.Pair
	for i := range size {
		ps = append(ps, api.Pair{Key: strconv.Itoa((i*7+3)%10) + "k" + strconv.Itoa(n), Value: strconv.Itoa((i*3+5)%10) + "v" + strconv.Itoa(i)})
	}
	return ps
}

// wrong tells what is wrong; of one test just the first such thing.
func wrong(t *testing.T, form string, all ...any) {
	t.Helper()
	if !t.Failed() {
		t.Errorf(form, all...)
	}
}

// brief answers the beginning of what ps is.
func brief(ps []api.Pair) string {
	return fmt.Sprintf("%d pairs, %q", len(ps), ps[:min(len(ps), 9)])
}

// watched is a stage, and beside it what it is to be by the chapter's words:
// what it answers is held against these.
type watched struct {
	t     *testing.T
	s     *Stage
	words byWords
}

func watch(t *testing.T) *watched { return &watched{t: t, s: New()} }

// full answers a stage that keeps something of every attempt: of no two the
// same, and not of all alike many chunks.
func full(t *testing.T) *watched {
	t.Helper()
	w := watch(t)
	for split := range mostSplits {
		for attempt := 1; attempt <= mostTries; attempt++ {
			for seq := range 1 + (split*mostTries+attempt)%5 {
				w.put(split, attempt, seq, chunk(1000*split+100*attempt+seq, (split+attempt+seq)%4))
			}
		}
	}
	w.ask("puts of every attempt")
	return w
}

func (w *watched) put(split, attempt, seq int, ps []api.Pair) {
	w.t.Helper()
	then, want := w.words.put(split, attempt, seq, ps)
	if got := w.s.Put(split, attempt, seq, ps); got != want {
		wrong(w.t, "P18.1: Put(%d, %d, %d, %d pairs): %d, not %d", split, attempt, seq, len(ps), got, want)
	}
	w.words = then
}

func (w *watched) take(split, attempt, count int) []api.Pair {
	w.t.Helper()
	want, ok := w.words.taken(split, attempt, count)
	return taken(w.t, w.s, split, attempt, count, ok, want)
}

func (w *watched) drop(split int) {
	w.t.Helper()
	then, want := w.words.dropped(split)
	dropped(w.t, w.s, split, want)
	w.words = then
}

// taken holds what Take answers against what it is to answer, and answers it.
func taken(t *testing.T, s *Stage, split, attempt, count int, ok bool, want []api.Pair) []api.Pair {
	t.Helper()
	ps, is := s.Take(split, attempt, count)
	if is != ok || !slices.Equal(ps, want) {
		wrong(t, "P18.1: Take(%d, %d, %d): %s, %t, not %s, %t", split, attempt, count, brief(ps), is, brief(want), ok)
	}
	return ps
}

func dropped(t *testing.T, s *Stage, split, want int) {
	t.Helper()
	if got := s.Drop(split); got != want {
		wrong(t, "P18.1: Drop(%d): %d, not %d", split, got, want)
	}
}

// ask holds all that the stage tells, of attempts that there are and of those
// next to them, against what it is to tell.
func (w *watched) ask(what string) {
	w.t.Helper()
	for split := -1; split <= mostSplits; split++ {
		for attempt := -1; attempt <= mostTries+1; attempt++ {
			w.askOf(what, split, attempt)
		}
	}
	if got, want := w.s.Count(), w.words.count(); got != want {
		wrong(w.t, "P18.1: behind %s: Count: %d, not %d", what, got, want)
	}
}

func (w *watched) askOf(what string, split, attempt int) {
	w.t.Helper()
	next := w.words.next(split, attempt)
	if got := w.s.Next(split, attempt); got != next {
		wrong(w.t, "P18.1: behind %s: Next(%d, %d): %d, not %d", what, split, attempt, got, next)
	}
	ps, ok := w.s.Take(split, attempt, next)
	if want, _ := w.words.taken(split, attempt, next); !ok || !slices.Equal(ps, want) {
		wrong(w.t, "P18.1: behind %s: Take(%d, %d, %d): %s, %t, not %s", what, split, attempt, next, brief(ps), ok, brief(want))
	}
	for _, count := range []int{next - 1, next + 1} {
		if ps, ok := w.s.Take(split, attempt, count); ok || len(ps) != 0 {
			wrong(w.t, "P18.1: behind %s: Take(%d, %d, %d), where %d are kept: %s, %t", what, split, attempt, count, next, brief(ps), ok)
		}
	}
}

// spare are pairs to be watched: they stand in the spare room of a list.
func spare() []api.Pair {
	return []api.Pair{{Key: "spare", Value: "1"}, {Key: "spare", Value: "2"}}
}

// roomy answers ps in memory of its own, with spare room behind it.
func roomy(ps []api.Pair) []api.Pair {
	return append(slices.Clone(ps), spare()...)[:len(ps)]
}

// shown answers ps in memory of its own, with all spare room shown.
func shown(ps []api.Pair) []api.Pair { return slices.Clone(ps[:cap(ps)]) }

// fill writes x over all that a list has room for.
func fill(ps []api.Pair, x api.Pair) {
	ps = ps[:cap(ps)]
	for i := range ps {
		ps[i] = x
	}
}

// spoil appends to ps, and writes over all that it has room for.
func spoil(ps []api.Pair) {
	fill(append(ps, api.Pair{Key: "appended"}), api.Pair{Value: "spoiled"})
	fill(ps, api.Pair{Key: "spoiled"})
}
