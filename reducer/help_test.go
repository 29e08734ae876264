package reducer

import (
	"fmt"
	"math"
	"slices"
	"strconv"
	"strings"
	"testing"
	"time"

	"staithe/api"
)

// The bounds, written out apart from package api: one that is taken by a wrong
// name is seen.
const (
	mostSplits  = 6
	mostParts   = 4
	mostRecords = 8
	mostPairs   = 40
	mostChunk   = 8
	mostTries   = 3
	mostFuel    = 2000
	mostKey     = 16
	mostBytes   = 64
)

// edges are numbers at the edges of their type, and some that only by their low
// bits are small.
func edges() []int {
	return []int{
		math.MinInt, math.MinInt + 1, math.MinInt + 2, math.MinInt32 - 1, math.MinInt32, math.MinInt32 + 1, -1 << 16, -65535, -256, -255, -254,
		255, 256, 257, 258, 1 << 16, 1<<16 + 1, 1<<16 + 2, math.MaxInt32, math.MaxInt32 + 1, math.MaxUint32, math.MaxUint32 + 1, math.MaxUint32 + 2, math.MaxUint32 + 3, 1 << 40, 1 << 62, math.MaxInt - 1, math.MaxInt,
	}
}

// about answers the numbers from two below x to two beyond it.
func about(x int) []int { return []int{x - 2, x - 1, x, x + 1, x + 2} }

// list answers pairs of words, each a key, a colon and a value.
func list(words ...string) []api.Pair {
	var ps []api.Pair
	for _, w := range words {
		key, value, _ := strings.Cut(w, ":")
		ps = append(ps, api.Pair{Key: key, Value: value})
	}
	return ps
}

// keyed answers n pairs of rising keys, each of which begins with name.
func keyed(name string, n int) []api.Pair {
	var ps []api.Pair
	for i := range n {
		ps = append(ps, api.Pair{Key: name + strconv.Itoa(1000+i), Value: strconv.Itoa(i)})
	}
	return ps
}

// each tells all of a key's values, with the key: of n values in 7*n+3
// instructions.
func each() []api.Ins {
	return []api.Ins{{Op: api.OpNext}, {Op: api.OpIf, A: 3}, {Op: api.OpHalt}, {Op: api.OpStore}, {Op: api.OpKey}, {Op: api.OpLoad}, {Op: api.OpEmit}, {Op: api.OpJump}}
}

// first tells a key's first value, with the key, in 4 instructions.
func first() []api.Ins {
	return []api.Ins{{Op: api.OpKey}, {Op: api.OpNext}, {Op: api.OpDrop}, {Op: api.OpEmit}}
}

// other tells a key's first value with the key "other".
func other() []api.Ins {
	return []api.Ins{{Op: api.OpBytes, S: "other"}, {Op: api.OpNext}, {Op: api.OpDrop}, {Op: api.OpEmit}}
}

// quiet tells nothing.
func quiet() []api.Ins { return []api.Ins{{Op: api.OpHalt}} }

// reasons are those that a reduce may end for, apart from api.Fine.
func reasons() []int { return []int{api.Under, api.Type, api.Fuel, api.Big, api.Many} }

// ends are instructions that, from place at on and with nothing on the stack,
// end a run for that reason.
func ends(reason, at int) []api.Ins {
	switch reason {
	case api.Under:
		return []api.Ins{{Op: api.OpDrop}}
	case api.Type:
		return []api.Ins{{Op: api.OpInt}, {Op: api.OpLen}}
	case api.Fuel:
		return []api.Ins{{Op: api.OpJump, A: at}}
	case api.Big:
		return []api.Ins{{Op: api.OpBytes, S: strings.Repeat("b", mostBytes)}, {Op: api.OpDup}, {Op: api.OpCat}}
	}
	return []api.Ins{{Op: api.OpKey}, {Op: api.OpDup}, {Op: api.OpEmit}, {Op: api.OpJump, A: at}}
}

// turns tells all of a key's values with the key; of the key "z" it ends for
// that reason.
func turns(reason int) []api.Ins {
	p := []api.Ins{
		{Op: api.OpKey}, {Op: api.OpBytes, S: "z"}, {Op: api.OpEq}, {Op: api.OpIf, A: 12},
		{Op: api.OpNext}, {Op: api.OpIf, A: 7}, {Op: api.OpHalt}, {Op: api.OpStore}, {Op: api.OpKey}, {Op: api.OpLoad}, {Op: api.OpEmit}, {Op: api.OpJump, A: 4},
	}
	return append(p, ends(reason, len(p))...)
}

// config answers a configuration that may be, of so many splits and three
// parts, with these marks; its reduce tells all that it is given.
func config(splits int, marks ...int) api.Config {
	return api.Config{Workers: 2, Tries: mostTries, Timeout: 3, Job: api.Job{
		Splits: make([][]api.Pair, splits), Parts: 3, Map: each(), Reduce: each(), Chunk: 2, Window: 2, Fuel: mostFuel, Marks: marks,
	}}
}

// reducing answers c with another reduce.
func reducing(c api.Config, reduce []api.Ins) api.Config {
	c.Job.Reduce = reduce
	return c
}

// merged and snapped are records, chunk a message.
func merged(part, split int, words ...string) api.Record {
	return api.Record{Kind: api.RecMerged, Part: part, Split: split, Attempt: 1, Pairs: list(words...)}
}

func snapped(part int, set ...int) api.Record {
	return api.Record{Kind: api.RecSnap, Part: part, Set: set}
}

func chunk(part, split, attempt, seq int, ps ...api.Pair) api.Message {
	return api.Message{Kind: api.MsgPush, Part: part, Split: split, Attempt: attempt, Seq: seq, Pairs: ps}
}

// wrong tells what is wrong; of one test just the first such thing.
func wrong(t *testing.T, form string, all ...any) {
	t.Helper()
	if !t.Failed() {
		t.Errorf(form, all...)
	}
}

// brief answers the beginning of what ps is.
func brief(ps []api.Pair) string {
	return fmt.Sprintf("%d pairs, %q", len(ps), ps[:min(len(ps), 9)])
}

// told answers the beginning of what xs is.
func told[T any](xs []T) string {
	text := fmt.Sprintf("%d: %+v", len(xs), xs)
	return text[:min(len(text), 600)]
}

// sameMessage, sameRecord and sameSnap answer whether all fields of both are the
// same.
func sameMessage(a, b api.Message) bool {
	return a.Kind == b.Kind && a.Split == b.Split && a.Attempt == b.Attempt && a.Part == b.Part && a.Seq == b.Seq && a.Next == b.Next && a.Epoch == b.Epoch && a.Reason == b.Reason &&
		slices.Equal(a.Set, b.Set) && slices.Equal(a.Pairs, b.Pairs)
}

func sameRecord(a, b api.Record) bool {
	return a.Kind == b.Kind && a.Part == b.Part && a.Split == b.Split && a.Attempt == b.Attempt && a.Reason == b.Reason &&
		slices.Equal(a.Set, b.Set) && slices.Equal(a.Pairs, b.Pairs)
}

func sameRecords(a, b []api.Record) bool { return slices.EqualFunc(a, b, sameRecord) }

func sameSnap(a, b api.Snap) bool {
	return a.Reason == b.Reason && slices.Equal(a.Set, b.Set) && slices.Equal(a.Pairs, b.Pairs)
}

// made answers a reducer of that part.
func made(t *testing.T, c api.Config, part, epoch int, rs ...api.Record) *Reducer {
	t.Helper()
	r, e := New(c, part, epoch, rs)
	if r == nil || e != api.OK {
		t.Fatalf("P21.1: New of part %d, epoch %d, %d records: a reducer %t, %d", part, epoch, len(rs), r != nil, e)
	}
	return r
}

// refused holds New against that it answers api.ErrArg, and no reducer.
func refused(t *testing.T, what string, c api.Config, part, epoch int, rs ...api.Record) {
	t.Helper()
	if r, e := New(c, part, epoch, rs); r != nil || e != api.ErrArg {
		wrong(t, "P21.1: New of %s, part %d, epoch %d: a reducer %t, %d, not ErrArg", what, part, epoch, r != nil, e)
	}
}

// inTime calls act so often, and stops where that takes far longer than so many
// small calls take.
func inTime(t *testing.T, what string, times int, act func()) {
	t.Helper()
	start := time.Now()
	for i := range times {
		act()
		if i%100 == 0 && time.Since(start) > 10*time.Second {
			t.Fatalf("P21.1: %s: %d of %d times took %v", what, i, times, time.Since(start))
		}
	}
}

// watched is a reducer, and beside it what it is to be by the chapter's words:
// what it answers is held against these.
type watched struct {
	t       *testing.T
	r       *Reducer
	words   *byWords
	journal []api.Record // all that it was begun of, and what it told since
}

func watch(t *testing.T, c api.Config, part, epoch int, rs ...api.Record) *watched {
	t.Helper()
	return &watched{t: t, r: made(t, c, part, epoch, rs...), words: wordsOf(c, part, epoch, rs), journal: recordsOf(rs)}
}

// push holds what Push answers against what it is to answer, and answers it.
func (w *watched) push(m api.Message) (api.Message, []api.Record) {
	w.t.Helper()
	wantAck, wantRecords := w.words.push(m)
	ack, rs := w.r.Push(m)
	if !sameMessage(ack, wantAck) {
		wrong(w.t, "P21.2: Push of kind %d, part %d, split %d, attempt %d, seq %d, %d pairs: %+v, not %+v", m.Kind, m.Part, m.Split, m.Attempt, m.Seq, len(m.Pairs), ack, wantAck)
	}
	if !sameRecords(rs, wantRecords) {
		wrong(w.t, "P21.3: Push of kind %d, part %d, split %d, attempt %d, seq %d, %d pairs: records %s, not %s", m.Kind, m.Part, m.Split, m.Attempt, m.Seq, len(m.Pairs), told(rs), told(wantRecords))
	}
	w.journal = append(w.journal, recordsOf(rs)...)
	return ack, rs
}

// won holds what Won answers against what it is to answer, and answers it.
func (w *watched) won(split, attempt, count int) []api.Record {
	w.t.Helper()
	want := w.words.won(split, attempt, count)
	rs := w.r.Won(split, attempt, count)
	if !sameRecords(rs, want) {
		wrong(w.t, "P21.2: Won(%d, %d, %d): records %s, not %s", split, attempt, count, told(rs), told(want))
	}
	w.journal = append(w.journal, recordsOf(rs)...)
	return rs
}

// anew answers what is begun of all that w was begun of and told.
func (w *watched) anew(epoch int) *watched {
	w.t.Helper()
	return watch(w.t, w.words.c, w.words.part, epoch, w.journal...)
}

// ask holds all that the reducer tells against what it is to tell.
func (w *watched) ask(what string) {
	w.t.Helper()
	if got, want := w.r.Merged(), w.words.merged(); !slices.Equal(got, want) {
		wrong(w.t, "P21.1: behind %s: Merged: %v, not %v", what, got, want)
	}
	for split := -1; split <= len(w.words.c.Job.Splits); split++ {
		w.pairs(what, split)
	}
	if got, want := w.r.Snaps(), w.words.snaps(); !slices.EqualFunc(got, want, sameSnap) {
		wrong(w.t, "P21.1: behind %s: Snaps: %s, not %s", what, told(got), told(want))
	}
	ps, why, ok := w.r.Output()
	if wantPairs, wantWhy, wantOk := w.words.output(); !slices.Equal(ps, wantPairs) || why != wantWhy || ok != wantOk {
		wrong(w.t, "P21.1: behind %s: Output: %s, %d, %t, not %s, %d, %t", what, brief(ps), why, ok, brief(wantPairs), wantWhy, wantOk)
	}
	if got, want := w.r.Staged(), w.words.staged(); got != want {
		wrong(w.t, "P21.1: behind %s: Staged: %d, not %d", what, got, want)
	}
	if got, want := w.r.Hello(), w.words.hello(); !sameMessage(got, want) {
		wrong(w.t, "P21.1: behind %s: Hello: %+v, not %+v", what, got, want)
	}
}

// pairs holds what Pairs answers against what it is to answer.
func (w *watched) pairs(what string, split int) {
	w.t.Helper()
	if got, want := w.r.Pairs(split), w.words.pairs(split); !slices.Equal(got, want) {
		wrong(w.t, "P21.1: behind %s: Pairs(%d): %s, not %s", what, split, brief(got), brief(want))
	}
}
