package mapper

import (
	"fmt"
	"math"
	"slices"
	"strconv"
	"strings"
	"testing"

	"staithe/api"
)

// The bounds, written out apart from package api: one that is taken by a wrong
// name is seen.
const (
	mostSplits  = 6
	mostParts   = 4
	mostRecords = 8
	mostPairs   = 40
	mostChunk   = 7
	mostWindow  = 4
	mostTries   = 3
	mostFuel    = 2000
)

// edges are numbers at the edges of their type, and some that only by their low
// bits are small.
func edges() []int {
	return []int{
		math.MinInt, math.MinInt + 1, math.MinInt + 2, math.MinInt32 - 1, math.MinInt32, math.MinInt32 + 1, -1 << 16, -65535, -256, -255,
		255, 256, 257, 258, 1 << 16, 1<<16 + 2, math.MaxInt32, math.MaxInt32 + 1, math.MaxUint32, math.MaxUint32 + 1, math.MaxUint32 + 2, math.MaxUint32 + 3, 1 << 40, 1 << 62, math.MaxInt - 1, math.MaxInt,
	}
}

// about answers the numbers from two below x to two beyond it.
func about(x int) []int { return []int{x - 2, x - 1, x, x + 1, x + 2} }

// list answers pairs of words, each a key, a colon and a value.
func list(words ...string) []api.Pair {
	var ps []api.Pair
	for _, w := range words {
		key, value, _ := strings.Cut(w, ":")
		ps = append(ps, api.Pair{Key: key, Value: value})
	}
	return ps
}

// each tells all of a key's values, with the key.
func each() []api.Ins {
	return []api.Ins{{Op: api.OpNext}, {Op: api.OpIf, A: 3}, {Op: api.OpHalt}, {Op: api.OpStore}, {Op: api.OpKey}, {Op: api.OpLoad}, {Op: api.OpEmit}, {Op: api.OpJump}}
}

// first tells a key's first value, with the key.
func first() []api.Ins {
	return []api.Ins{{Op: api.OpKey}, {Op: api.OpNext}, {Op: api.OpDrop}, {Op: api.OpEmit}}
}

// falls tells as many pairs as its first value says, of the numbers from that
// one down to 1, with the key.
func falls() []api.Ins {
	return []api.Ins{
		{Op: api.OpNext}, {Op: api.OpDrop}, {Op: api.OpNum}, {Op: api.OpStore, A: 1},
		{Op: api.OpLoad, A: 1}, {Op: api.OpIf, A: 7}, {Op: api.OpHalt},
		{Op: api.OpKey}, {Op: api.OpLoad, A: 1}, {Op: api.OpText}, {Op: api.OpEmit},
		{Op: api.OpLoad, A: 1}, {Op: api.OpInt, A: 1}, {Op: api.OpSub}, {Op: api.OpStore, A: 1}, {Op: api.OpJump, A: 4},
	}
}

// ends are instructions that, from place at on and with nothing on the stack,
// end a run for that reason; of BadKey, a combine's run.
func ends(reason, at int) []api.Ins {
	switch reason {
	case api.Under:
		return []api.Ins{{Op: api.OpDrop}}
	case api.Type:
		return []api.Ins{{Op: api.OpInt}, {Op: api.OpLen}}
	case api.Fuel:
		return []api.Ins{{Op: api.OpJump, A: at}}
	case api.Big:
		return []api.Ins{{Op: api.OpBytes, S: strings.Repeat("b", 64)}, {Op: api.OpDup}, {Op: api.OpCat}}
	case api.Many:
		return []api.Ins{{Op: api.OpKey}, {Op: api.OpDup}, {Op: api.OpEmit}, {Op: api.OpJump, A: at}}
	}
	return []api.Ins{{Op: api.OpBytes, S: "no key of a job"}, {Op: api.OpDup}, {Op: api.OpEmit}}
}

// turns tells all of a key's values with the key; of the key "z" it ends for
// that reason.
func turns(reason int) []api.Ins {
	p := []api.Ins{
		{Op: api.OpKey}, {Op: api.OpBytes, S: "z"}, {Op: api.OpEq}, {Op: api.OpIf, A: 12},
		{Op: api.OpNext}, {Op: api.OpIf, A: 7}, {Op: api.OpHalt}, {Op: api.OpStore}, {Op: api.OpKey}, {Op: api.OpLoad}, {Op: api.OpEmit}, {Op: api.OpJump, A: 4},
	}
	return append(p, ends(reason, len(p))...)
}

// config answers a configuration that may be, of these splits and two parts,
// that tells what it is given: the keys "b" and "d" are of part 1, "a" and "c"
// of part 0.
func config(splits ...[]api.Pair) api.Config {
	return api.Config{Workers: 2, Tries: mostTries, Timeout: 3, Job: api.Job{
		Splits: splits, Parts: 2, Map: each(), Reduce: first(), Chunk: 1, Window: 2, Fuel: mostFuel,
	}}
}

// keyOf answers a key that is of part p of so many, by the chapter's number of
// a key of one byte: 7 times 31, and the byte.
func keyOf(p, parts int) string {
	b := byte('a')
	for (7*31+int(b))%parts != p {
		b++
	}
	return string(rune(b))
}

// sized answers a configuration of one split, of which part p has sizes[p]
// pairs: 40 at most in all.
func sized(sizes ...int) api.Config {
	var split []api.Pair
	for p, n := range sizes {
		if n > 0 {
			split = append(split, api.Pair{Key: keyOf(p, len(sizes)), Value: strconv.Itoa(n)})
		}
	}
	c := config(split)
	c.Job.Parts, c.Job.Map, c.Job.Window = len(sizes), falls(), mostWindow
	return c
}

// wrong tells what is wrong; of one test just the first such thing.
func wrong(t *testing.T, form string, all ...any) {
	t.Helper()
	if !t.Failed() {
		t.Errorf(form, all...)
	}
}

// brief answers the beginning of what ps is.
func brief(ps []api.Pair) string {
	return fmt.Sprintf("%d pairs, %q", len(ps), ps[:min(len(ps), 9)])
}

// sameMessage answers whether all fields of both are the same.
func sameMessage(a, b api.Message) bool {
	return a.Kind == b.Kind && a.Split == b.Split && a.Attempt == b.Attempt && a.Part == b.Part && a.Seq == b.Seq && a.Next == b.Next && a.Epoch == b.Epoch && a.Reason == b.Reason &&
		slices.Equal(a.Set, b.Set) && slices.Equal(a.Pairs, b.Pairs)
}

// made answers a mapper of that attempt.
func made(t *testing.T, c api.Config, split, attempt int) *Mapper {
	t.Helper()
	m, e := New(c, split, attempt)
	if m == nil || e != api.OK {
		t.Fatalf("P19.1: New of split %d, attempt %d: no mapper, %d", split, attempt, e)
	}
	return m
}

// refused holds New against that it answers api.ErrArg, and no mapper.
func refused(t *testing.T, what string, c api.Config, split, attempt int) {
	t.Helper()
	if m, e := New(c, split, attempt); m != nil || e != api.ErrArg {
		wrong(t, "P19.1: New of %s, split %d, attempt %d: a mapper %t, %d, not ErrArg", what, split, attempt, m != nil, e)
	}
}

// watched is a mapper, and beside it what it is to be by the chapter's words:
// what it answers is held against these.
type watched struct {
	t     *testing.T
	m     *Mapper
	words byWords
}

func watch(t *testing.T, c api.Config, split, attempt int) *watched {
	t.Helper()
	return &watched{t: t, m: made(t, c, split, attempt), words: wordsOf(c, split, attempt)}
}

// ack holds what Ack answers against what it is to answer, and answers that.
func (w *watched) ack(part, epoch, next int) bool {
	w.t.Helper()
	want := w.words.ack(part, epoch, next)
	if got := w.m.Ack(part, epoch, next); got != want {
		wrong(w.t, "P19.1: Ack(%d, %d, %d): %t, not %t", part, epoch, next, got, want)
	}
	return want
}

// ask holds all that the mapper tells against what it is to tell.
func (w *watched) ask(what string) {
	w.t.Helper()
	w.askPush(what)
	if got, want := w.m.Reason(), w.words.why; got != want {
		wrong(w.t, "P19.1: behind %s: Reason: %d, not %d", what, got, want)
	}
	if got, want := w.m.Counts(), w.words.counts(); !slices.Equal(got, want) {
		wrong(w.t, "P19.1: behind %s: Counts: %v, not %v", what, got, want)
	}
	for part := -1; part <= len(w.words.parts); part++ {
		for seq := -1; seq <= w.words.count(part)+1; seq++ {
			w.chunk(what, part, seq)
		}
	}
	w.askPush(what)
}

// askPush holds what hangs on acks against what it is to be.
func (w *watched) askPush(what string) {
	w.t.Helper()
	if got, want := w.m.Done(), w.words.done(); got != want {
		wrong(w.t, "P19.1: behind %s: Done: %t, not %t", what, got, want)
	}
	if got, want := w.m.Push(), w.words.push(); !slices.EqualFunc(got, want, sameMessage) {
		wrong(w.t, "P19.1: behind %s: Push: %d messages, %v, not %d, %v", what, len(got), got[:min(len(got), 5)], len(want), want[:min(len(want), 5)])
	}
}

// chunk holds what Chunk answers against what it is to answer, and answers it.
func (w *watched) chunk(what string, part, seq int) []api.Pair {
	w.t.Helper()
	got, want := w.m.Chunk(part, seq), w.words.chunk(part, seq)
	if !slices.Equal(got, want) {
		wrong(w.t, "P19.1: behind %s: Chunk(%d, %d): %s, not %s", what, part, seq, brief(got), brief(want))
	}
	return got
}
