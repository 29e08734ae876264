package reducer

import (
	"math/rand"
	"slices"
	"strconv"
	"testing"

	"staithe/api"
	"staithe/fold"
	"staithe/job"
	"staithe/record"
)

// byWords is the reducer once more, by the chapters' words alone: a plain list
// of the records that count for the part, one of who won, and one of all chunks
// that wait. Of the layers only the fold is called.
type byWords struct {
	c           api.Config
	part, epoch int
	journal     []api.Record
	winners     []winner
	waits       []waiting
}

type winner struct{ split, attempt, count int }

type waiting struct {
	split, attempt int
	pairs          []api.Pair
}

func wordsOf(c api.Config, part, epoch int, rs []api.Record) *byWords {
	b := &byWords{c: configOf(c), part: part, epoch: epoch}
	for _, r := range recordsOf(rs) {
		switch {
		case r.Part != part:
		case r.Kind == api.RecSnap:
			b.journal = append(b.journal, r)
		case r.Kind == api.RecMerged && b.has(r.Split) && !slices.Contains(b.merged(), r.Split):
			b.journal = append(b.journal, r)
		}
	}
	return b
}

// configOf and recordsOf answer what they are given in memory of its own.
func configOf(c api.Config) api.Config {
	j := &c.Job
	j.Splits = slices.Clone(j.Splits)
	for i, split := range j.Splits {
		j.Splits[i] = slices.Clone(split)
	}
	j.Map, j.Combine, j.Reduce, j.Marks = slices.Clone(j.Map), slices.Clone(j.Combine), slices.Clone(j.Reduce), slices.Clone(j.Marks)
	return c
}

func recordsOf(rs []api.Record) []api.Record {
	rs = slices.Clone(rs)
	for i := range rs {
		rs[i].Set, rs[i].Pairs = slices.Clone(rs[i].Set), slices.Clone(rs[i].Pairs)
	}
	return rs
}

func (b *byWords) has(split int) bool { return split >= 0 && split < len(b.c.Job.Splits) }

func (b *byWords) merged() []int {
	var all []int
	for split := range b.c.Job.Splits {
		for _, r := range b.journal {
			if r.Kind == api.RecMerged && r.Split == split {
				all = append(all, split)
			}
		}
	}
	return all
}

func (b *byWords) pairs(split int) []api.Pair {
	for _, r := range b.journal {
		if r.Kind == api.RecMerged && r.Split == split {
			return r.Pairs
		}
	}
	return nil
}

// reduced tells of the merged splits of set: one behind the other, as the fold
// puts them in order without changing that of one key.
func (b *byWords) reduced(set []int) ([]api.Pair, int) {
	var all []api.Pair
	for _, split := range b.merged() {
		if slices.Contains(set, split) {
			all = append(all, b.pairs(split)...)
		}
	}
	return fold.Each(b.c.Job.Reduce, all, b.c.Job.Fuel)
}

func (b *byWords) snaps() []api.Snap {
	var all []api.Snap
	for _, r := range b.journal {
		if r.Kind == api.RecSnap {
			ps, why := b.reduced(r.Set)
			all = append(all, api.Snap{Set: r.Set, Reason: why, Pairs: ps})
		}
	}
	return all
}

func (b *byWords) whole() bool { return len(b.merged()) == len(b.c.Job.Splits) }

func (b *byWords) output() ([]api.Pair, int, bool) {
	if !b.whole() {
		return nil, api.Fine, false
	}
	ps, why := b.reduced(b.merged())
	return ps, why, true
}

func (b *byWords) hello() api.Message {
	if _, why, whole := b.output(); whole {
		return api.Message{Kind: api.MsgReady, Part: b.part, Epoch: b.epoch, Reason: why}
	}
	return api.Message{Kind: api.MsgHello, Part: b.part, Epoch: b.epoch, Set: b.merged()}
}

func (b *byWords) staged() int {
	var all []winner
	for _, x := range b.waits {
		if of := (winner{split: x.split, attempt: x.attempt}); !slices.Contains(all, of) {
			all = append(all, of)
		}
	}
	return len(all)
}

func (b *byWords) next(split, attempt int) int {
	n := 0
	for _, x := range b.waits {
		if x.split == split && x.attempt == attempt {
			n++
		}
	}
	return n
}

func mayBeChunk(ps []api.Pair) bool {
	for _, p := range ps {
		if len(p.Key) > mostKey || len(p.Value) > mostBytes {
			return false
		}
	}
	return len(ps) <= mostChunk
}

func (b *byWords) push(m api.Message) (api.Message, []api.Record) {
	if m.Kind != api.MsgPush || m.Part != b.part || !b.has(m.Split) {
		return api.Message{}, nil
	}
	ack := api.Message{Kind: api.MsgAck, Split: m.Split, Attempt: m.Attempt, Part: b.part, Epoch: b.epoch, Next: mostPairs}
	if slices.Contains(b.merged(), m.Split) {
		return ack, nil
	}
	next := b.next(m.Split, m.Attempt)
	if mayBeChunk(m.Pairs) && m.Attempt >= 1 && m.Attempt <= mostTries && m.Seq == next && m.Seq < mostPairs {
		b.waits = append(b.waits, waiting{m.Split, m.Attempt, slices.Clone(m.Pairs)})
		next++
	}
	rs := b.look(m.Split)
	if len(rs) == 0 {
		ack.Next = next
	}
	return ack, rs
}

func (b *byWords) won(split, attempt, count int) []api.Record {
	wasTold := slices.ContainsFunc(b.winners, func(x winner) bool { return x.split == split })
	if !b.has(split) || attempt < 1 || attempt > b.c.Tries || slices.Contains(b.merged(), split) || wasTold {
		return nil
	}
	b.winners = append(b.winners, winner{split, attempt, count})
	return b.look(split)
}

func (b *byWords) look(split int) []api.Record {
	for _, x := range b.winners {
		if x.split != split || x.count != b.next(split, x.attempt) {
			continue
		}
		var all []api.Pair
		for _, k := range b.waits {
			if k.split == split && k.attempt == x.attempt {
				all = append(all, k.pairs...)
			}
		}
		if len(all) > mostPairs {
			return nil
		}
		b.waits = slices.DeleteFunc(b.waits, func(k waiting) bool { return k.split == split })
		return b.tell(split, x.attempt, all)
	}
	return nil
}

// tell journals that a split is merged, and the snapshot, if a mark is reached.
func (b *byWords) tell(split, attempt int, ps []api.Pair) []api.Record {
	at := len(b.journal)
	b.journal = append(b.journal, api.Record{Kind: api.RecMerged, Part: b.part, Split: split, Attempt: attempt, Pairs: ps})
	for _, mark := range b.c.Job.Marks {
		if now := b.merged(); mark == len(now) {
			b.journal = append(b.journal, api.Record{Kind: api.RecSnap, Part: b.part, Set: now})
		}
	}
	return b.journal[at:]
}

// drawn answers one of all, or, seldom, any number.
func drawn(r *rand.Rand, all ...int) int {
	if r.Intn(80) == 0 {
		return edges()[r.Intn(len(edges()))]
	}
	return all[r.Intn(len(all))]
}

// drawnConfig answers a configuration that may be.
func drawnConfig(r *rand.Rand) api.Config {
	c := config(1 + r.Intn(mostSplits))
	c.Tries, c.Workers, c.Job.Parts = 1+r.Intn(mostTries), 1+r.Intn(4), 1+r.Intn(mostParts)
	programs := [][]api.Ins{each(), each(), first(), other(), quiet(), turns(reasons()[r.Intn(5)])}
	c.Job.Reduce = programs[r.Intn(len(programs))]
	if r.Intn(10) == 0 {
		c.Job.Fuel = 1 + r.Intn(60)
	}
	for mark := range len(c.Job.Splits) {
		if len(c.Job.Marks) < 4 && r.Intn(2) == 0 {
			c.Job.Marks = append(c.Job.Marks, mark+1)
		}
	}
	return c
}

// drawnPairs answers n pairs of few keys, in no order.
func drawnPairs(r *rand.Rand, n int) []api.Pair {
	var ps []api.Pair
	for range n {
		key := []string{"", "a", "b", "c", "ab", "\xff", "z"}[r.Intn(6+(r.Intn(12)+1)/12)]
		ps = append(ps, api.Pair{Key: key, Value: strconv.Itoa(r.Intn(100))})
	}
	return ps
}

// drawnRecords answers what a journal may hold, and what none holds.
func drawnRecords(r *rand.Rand, c api.Config, part int) []api.Record {
	var rs []api.Record
	splits := len(c.Job.Splits)
	for range r.Intn(8) {
		x := api.Record{
			Kind: drawn(r, api.RecMerged, api.RecMerged, api.RecMerged, api.RecSnap, api.RecSnap, api.RecLife, api.RecWon, api.RecOver, 0),
			Part: drawn(r, part, part, part, part, part+1, part-1), Split: drawn(r, r.Intn(splits), r.Intn(splits), splits, -1), Attempt: drawn(r, 1, 1, 2, 0),
			Pairs: drawnPairs(r, drawn(r, 0, 1, 3, 8, 41)&127),
		}
		for range r.Intn(splits + 2) {
			x.Set = append(x.Set, drawn(r, r.Intn(splits), r.Intn(splits), splits, -1))
		}
		rs = append(rs, x)
	}
	return rs
}

// drawnPush pushes a chunk, mostly the one that is wanted of a split that is not
// merged, of a fat row chunks of many pairs, one behind the other; it answers
// what is told apart of such a push.
func drawnPush(w *watched, r *rand.Rand, fat bool) string {
	splits, next := len(w.words.c.Job.Splits), 0
	m := chunk(drawn(r, w.words.part), drawn(r, r.Intn(splits)), drawn(r, 1, 1, 1, 1, 2, 2, 3, 3, 1, 1, 2, 0, 4), 0)
	if r.Intn(12) > 0 && !w.words.whole() {
		for slices.Contains(w.words.merged(), m.Split) {
			m.Split = r.Intn(splits)
		}
	}
	if fat && r.Intn(4) > 0 && len(w.words.waits) > 0 {
		last := w.words.waits[len(w.words.waits)-1]
		m.Split, m.Attempt = last.split, last.attempt
	}
	next = w.words.next(m.Split, m.Attempt)
	m.Seq = drawn(r, next, next, next, next, next, next, next-1, next+1, 0)
	size := r.Intn(5)
	if fat {
		size = mostChunk - r.Intn(2)
	}
	if r.Intn(15) == 0 {
		size = drawn(r, 9, 10, 40) & 63
	}
	m.Pairs = drawnPairs(r, size)
	if r.Intn(30) == 0 {
		m.Pairs = append(m.Pairs, api.Pair{Key: "a key of 17 bytes"})
	}
	switch k := r.Intn(60); k {
	case 0:
		m.Kind = drawn(r, 0, 1, 3, 4, 5, 6, 7, 8, 9)
	case 1:
		m.Part += 1 - 2*r.Intn(2)
	case 2:
		m.Split = drawn(r, -1, splits)
	}
	// None of these is looked at.
	m.Next, m.Epoch, m.Reason = r.Intn(9), r.Intn(9), r.Intn(9)
	waits, wasMerged := len(w.words.waits), slices.Contains(w.words.merged(), m.Split)
	won := slices.Contains(w.words.winners, winner{m.Split, m.Attempt, m.Seq + 1})
	ack, rs := w.push(m)
	switch {
	case ack.Kind == 0:
		return "Push of nothing"
	case wasMerged:
		return "Push, merged already"
	case len(rs) == 2:
		return "Push, merged, and a snapshot"
	case len(rs) == 1:
		return "Push, merged"
	case !mayBeChunk(m.Pairs):
		return "Push of what may not be"
	case m.Attempt < 1 || m.Attempt > mostTries:
		return "Push of no attempt"
	case len(w.words.waits) == waits:
		return "Push of what is not wanted"
	case won:
		return "Push of too many pairs"
	case m.Attempt > w.words.c.Tries:
		return "Push of an attempt behind Tries"
	}
	return "Push"
}

// drawnWon tells who won, mostly of a split that nobody was told to have won.
func drawnWon(w *watched, r *rand.Rand) string {
	splits := len(w.words.c.Job.Splits)
	split, attempt := drawn(r, r.Intn(splits), r.Intn(splits), -1, splits), drawn(r, 1, 1, 2, 2, 3, 0, 4)
	if len(w.words.waits) > 0 && r.Intn(4) > 0 {
		x := w.words.waits[r.Intn(len(w.words.waits))]
		split, attempt = x.split, x.attempt
	}
	next := w.words.next(split, attempt)
	count := drawn(r, next, next, next, next+1, next+1, next+1, next+2, next+2, next-1, 0, -1)
	winners, wasMerged := len(w.words.winners), slices.Contains(w.words.merged(), split)
	rs := w.won(split, attempt, count)
	switch {
	case len(rs) == 2:
		return "Won, merged, and a snapshot"
	case len(rs) == 1:
		return "Won, merged"
	case !w.words.has(split) || attempt < 1 || attempt > w.words.c.Tries:
		return "Won of none"
	case wasMerged:
		return "Won, merged already"
	case len(w.words.winners) == winners:
		return "Won, told already"
	case count < next:
		return "Won of too few"
	case count == next:
		return "Won of too many pairs"
	}
	return "Won ahead of its chunks"
}

// TestAsTheWordsGo draws long rows of calls, of reducers that are begun of drawn
// records too, and begun anew between calls.
func TestAsTheWordsGo(t *testing.T) {
	r := rand.New(rand.NewSource(21))
	count := map[string]int{}
	for row := range 2500 {
		c := drawnConfig(r)
		if !job.MayConfig(c) {
			t.Fatalf("P12.1: what was drawn may not be: %v", c)
		}
		part, fat := r.Intn(c.Job.Parts), row%3 == 0
		var rs []api.Record
		if r.Intn(3) == 0 {
			rs = drawnRecords(r, c, part)
		}
		w := watch(t, c, part, 1+r.Intn(5), rs...)
		w.ask("New of " + strconv.Itoa(len(rs)) + " records")
		for call := range 60 {
			name := ""
			switch k := r.Intn(100); {
			case k < 88 || fat && k < 96:
				name = drawnPush(w, r, fat)
			case k < 98:
				name = drawnWon(w, r)
			default:
				w, name = w.anew(w.words.epoch+1), "New of what was told"
			}
			if _, why, whole := w.words.output(); whole {
				count["whole, for reason "+strconv.Itoa(min(why, 1))]++
			}
			count[name]++
			w.ask(name)
			if t.Failed() {
				t.Fatalf("P21.4: row %d, call %d: %s; %d records, %v", row, call, name, len(rs), c)
			}
		}
	}
	for _, name := range []string{
		"Push", "Push of nothing", "Push, merged already", "Push, merged", "Push, merged, and a snapshot", "Push of what may not be", "Push of no attempt", "Push of what is not wanted", "Push of too many pairs", "Push of an attempt behind Tries",
		"Won, merged", "Won, merged, and a snapshot", "Won of none", "Won, merged already", "Won, told already", "Won of too few", "Won of too many pairs", "Won ahead of its chunks",
		"New of what was told", "whole, for reason 0", "whole, for reason 1",
	} {
		if least := 40; count[name] < least {
			wrong(t, "what was drawn is too much alike: %d of %s: %v", count[name], name, count)
		}
	}
}

// TestBegunAnewBehindEachCall begins a reducer anew behind every call of a row,
// of all that another one was begun of and told, in bytes too: it has merged
// the same, its snapshots are the same, and nothing waits.
func TestBegunAnewBehindEachCall(t *testing.T) {
	r := rand.New(rand.NewSource(22))
	for row := range 200 {
		c := drawnConfig(r)
		w := watch(t, c, r.Intn(c.Job.Parts), 1+r.Intn(3))
		for call := range 40 {
			if r.Intn(4) > 0 {
				drawnPush(w, r, row%4 == 0)
			} else {
				drawnWon(w, r)
			}
			read, _ := record.Read(record.Lay(w.journal...))
			if !sameRecords(read, w.journal) {
				t.Fatalf("P21.3: row %d, call %d: a record that may not be among %s", row, call, told(w.journal))
			}
			epoch := 1 + r.Intn(9)
			again := watch(t, c, w.words.part, epoch, read...)
			again.ask("New of what was told")
			sameFromRecords(t, w, again.r, epoch)
			if t.Failed() {
				t.Fatalf("P21.4: row %d, call %d", row, call)
			}
		}
	}
}

// sameFromRecords holds a reducer against the one whose records it was begun of.
func sameFromRecords(t *testing.T, w *watched, again *Reducer, epoch int) {
	t.Helper()
	if !slices.Equal(again.Merged(), w.r.Merged()) || !slices.EqualFunc(again.Snaps(), w.r.Snaps(), sameSnap) || again.Staged() != 0 {
		wrong(t, "P21.4: begun anew: Merged %v, Staged %d, Snaps %s, not %v, 0, %s", again.Merged(), again.Staged(), told(again.Snaps()), w.r.Merged(), told(w.r.Snaps()))
	}
	for split := range w.words.c.Job.Splits {
		if !slices.Equal(again.Pairs(split), w.r.Pairs(split)) {
			wrong(t, "P21.4: begun anew: Pairs(%d): %s, not %s", split, brief(again.Pairs(split)), brief(w.r.Pairs(split)))
		}
	}
	ps, why, ok := again.Output()
	if wantPairs, wantWhy, wantOk := w.r.Output(); !slices.Equal(ps, wantPairs) || why != wantWhy || ok != wantOk {
		wrong(t, "P21.4: begun anew: Output: %s, %d, %t, not %s, %d, %t", brief(ps), why, ok, brief(wantPairs), wantWhy, wantOk)
	}
	if h := again.Hello(); h.Epoch != epoch {
		wrong(t, "P21.1: begun anew in epoch %d: Hello tells %d", epoch, h.Epoch)
	}
}
