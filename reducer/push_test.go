package reducer

import (
	"math"
	"slices"
	"strconv"
	"strings"
	"testing"

	"staithe/api"
)

// busy answers a reducer of part 1 of four splits: split 0 is merged, of split 1
// two chunks of attempt 1 wait and one of attempt 2, of split 2 it is known who
// won.
func busy(t *testing.T, tries int) *watched {
	t.Helper()
	c := config(4, 3)
	c.Tries = tries
	w := watch(t, c, 1, 6, merged(1, 0, "a:0"))
	w.push(chunk(1, 1, 1, 0, list("b:1", "a:1")...))
	w.push(chunk(1, 1, 1, 1, list("c:1")...))
	w.push(chunk(1, 1, 2, 0, list("b:2")...))
	w.won(2, 1, 2)
	w.push(chunk(1, 2, 1, 0, list("a:2")...))
	if w.r.Staged() != 3 || !slices.Equal(w.r.Merged(), []int{0}) {
		t.Fatalf("P21.1: Staged %d, Merged %v", w.r.Staged(), w.r.Merged())
	}
	return w
}

// nothing holds Push against that it answers nothing, and changes nothing.
func nothing(t *testing.T, w *watched, what string, m api.Message) {
	t.Helper()
	if ack, rs := w.push(m); !sameMessage(ack, api.Message{}) || len(rs) != 0 {
		wrong(t, "P21.2: Push %s: %+v, %v", what, ack, rs)
	}
	w.ask("Push " + what)
}

func TestPushOfNothing(t *testing.T) {
	w := busy(t, mostTries)
	for split := range 4 {
		for seq := range 3 {
			for _, n := range slices.Concat(edges(), about(0), []int{api.MsgRun, api.MsgAck, api.MsgDone, api.MsgFail, api.MsgHello, api.MsgWon, api.MsgReady, api.MsgEnd, 10, 11}) {
				if n == api.MsgPush {
					continue
				}
				m := chunk(1, split, 1, seq, list("a:1")...)
				m.Kind, m.Next = n, 2
				nothing(t, w, "of another kind", m)
			}
			for _, n := range slices.Concat(edges(), []int{-2, -1, 0, 2, 3, 4, 5}) {
				nothing(t, w, "of another part", chunk(n, split, 1, seq, list("a:1")...))
			}
		}
	}
	for _, n := range slices.Concat(edges(), []int{-2, -1}, about(6)) {
		for attempt := range mostTries + 2 {
			nothing(t, w, "of no split", chunk(1, n, attempt, 0, list("a:1")...))
		}
	}
	nothing(t, w, "of zeros", api.Message{})
}

// TestPushOfWhatIsMerged answers with the attempt that the message tells,
// whatever else it tells.
func TestPushOfWhatIsMerged(t *testing.T) {
	w := busy(t, 1)
	w.won(3, 1, 0)
	for _, split := range []int{0, 3} {
		for _, n := range slices.Concat(edges(), about(0), about(mostTries), about(mostPairs)) {
			for _, m := range []api.Message{
				chunk(1, split, n, 0, list("a:9")...), chunk(1, split, 1, n), chunk(1, split, n, n, make([]api.Pair, 9)...), chunk(1, split, 2, 0, list("a key of 17 bytes:1")...),
				{Kind: api.MsgPush, Part: 1, Split: split, Attempt: n, Next: n, Epoch: n, Reason: n, Set: []int{n}},
			} {
				want := api.Message{Kind: api.MsgAck, Part: 1, Split: split, Attempt: m.Attempt, Epoch: 6, Next: mostPairs}
				if ack, rs := w.push(m); !sameMessage(ack, want) || len(rs) != 0 {
					wrong(t, "P21.2: Push(%+v): %+v, %v, not %+v", m, ack, rs, want)
				}
			}
		}
	}
	w.ask("pushes of what is merged")
}

// TestSeqs pushes each seq behind so many chunks: just the wanted one is taken.
func TestSeqs(t *testing.T) {
	for kept := range 4 {
		for _, seq := range slices.Concat(edges(), about(0), about(kept), about(mostPairs)) {
			w := watch(t, config(2), 0, 3)
			for k := range kept {
				w.push(chunk(0, 1, 2, k, list("a:"+strconv.Itoa(k))...))
			}
			next := kept
			if seq == kept {
				next++
			}
			want := api.Message{Kind: api.MsgAck, Split: 1, Attempt: 2, Epoch: 3, Next: next}
			if ack, rs := w.push(chunk(0, 1, 2, seq, list("b:9")...)); !sameMessage(ack, want) || len(rs) != 0 {
				wrong(t, "P21.2: behind %d chunks: Push of seq %d: %+v, %v, not %+v", kept, seq, ack, rs, want)
			}
			w.ask("Push of seq " + strconv.Itoa(seq))
			w.won(1, 2, next)
			w.ask("Won behind that")
		}
	}
}

// TestAttempts pushes chunks of each attempt: Tries is no bound of a push.
func TestAttempts(t *testing.T) {
	for tries := 1; tries <= mostTries; tries++ {
		for _, attempt := range slices.Concat(edges(), about(0), about(mostTries)) {
			w := busy(t, tries)
			staged := w.r.Staged()
			for seq := range 2 {
				next := 0
				if attempt >= 1 && attempt <= mostTries {
					next = seq + 1
				}
				want := api.Message{Kind: api.MsgAck, Part: 1, Split: 3, Attempt: attempt, Epoch: 6, Next: next}
				if ack, rs := w.push(chunk(1, 3, attempt, seq, list("a:9")...)); !sameMessage(ack, want) || len(rs) != 0 {
					wrong(t, "P21.2: of %d tries: Push of attempt %d, seq %d: %+v, %v, not %+v", tries, attempt, seq, ack, rs, want)
				}
				if got := w.r.Staged(); got != staged+min(next, 1) {
					wrong(t, "P21.2: of %d tries: behind a push of attempt %d: Staged %d", tries, attempt, got)
				}
			}
			w.ask("pushes of attempt " + strconv.Itoa(attempt))
			w.won(3, attempt, 2)
			w.ask("Won of attempt " + strconv.Itoa(attempt))
		}
	}
}

// TestChunksThatMayNotBe pushes too many pairs, and pairs that are too long at
// each place: it is as if these had not come.
func TestChunksThatMayNotBe(t *testing.T) {
	long := api.Pair{Key: strings.Repeat("k", mostKey+1)}
	wide := api.Pair{Value: strings.Repeat("v", mostBytes+1)}
	at := api.Pair{Key: strings.Repeat("k", mostKey), Value: strings.Repeat("v", mostBytes)}
	chunks := map[bool][][]api.Pair{true: {nil, {at}}, false: {{long}, {wide}, {long, wide}}}
	for n := range 2 * mostPairs {
		chunks[n <= mostChunk] = append(chunks[n <= mostChunk], keyed("k", n), slices.Repeat([]api.Pair{at}, n))
		for place := range min(n, mostChunk) {
			for _, x := range []api.Pair{long, wide} {
				ps := keyed("k", n)
				ps[place] = x
				chunks[false] = append(chunks[false], ps)
			}
		}
	}
	for may, all := range chunks {
		for _, ps := range all {
			w := watch(t, config(2), 0, 3)
			for kept := range 3 {
				next := kept
				if may {
					next++
				}
				want := api.Message{Kind: api.MsgAck, Split: 1, Attempt: 2, Epoch: 3, Next: next}
				if ack, rs := w.push(chunk(0, 1, 2, kept, ps...)); !sameMessage(ack, want) || len(rs) != 0 {
					wrong(t, "P21.2: Push of %s behind %d chunks: %+v, %v, not %+v", brief(ps), kept, ack, rs, want)
				}
				w.ask("Push of " + strconv.Itoa(len(ps)) + " pairs")
				w.push(chunk(0, 1, 2, kept, list("a:1")...))
			}
			// What may not be completes nothing, and what may does.
			w.push(chunk(0, 0, 1, 0, list("a:2")...))
			w.won(0, 1, 2)
			if ack, rs := w.push(chunk(0, 0, 1, 1, ps...)); len(rs) == 1 != may || ack.Next == mostPairs != may {
				wrong(t, "P21.2: Push of %s as the last chunk: %+v, %v", brief(ps), ack, rs)
			}
			w.ask("Push of the last chunk")
		}
	}
}

// TestAsManyChunksAsMayBe pushes 40 chunks of one attempt, and more.
func TestAsManyChunksAsMayBe(t *testing.T) {
	w := watch(t, config(1), 0, 1)
	for seq := range mostPairs + 3 {
		ack, rs := w.push(chunk(0, 0, 1, seq, list("k:"+strconv.Itoa(seq))...))
		if ack.Next != min(seq+1, mostPairs) || len(rs) != 0 {
			wrong(t, "P21.2: Push of seq %d: %+v, %v", seq, ack, rs)
		}
		w.ask("Push of one more")
	}
	if rs := w.won(0, 1, mostPairs); len(rs) != 1 || len(rs[0].Pairs) != mostPairs {
		wrong(t, "P21.3: Won of %d chunks: %v", mostPairs, rs)
	}
	w.ask("Won of as many chunks as may be")
}

func TestWonOfNothing(t *testing.T) {
	for tries := 1; tries <= mostTries; tries++ {
		w := busy(t, tries)
		for _, split := range slices.Concat(edges(), []int{-2, -1}, about(6)) {
			for count := range 3 {
				if rs := w.won(split, 1, count); len(rs) != 0 {
					wrong(t, "P21.2: Won(%d, 1, %d): %v", split, count, rs)
				}
			}
		}
		for split := range 4 {
			for _, attempt := range slices.Concat(edges(), []int{-2, -1, 0}, about(tries+3)) {
				for count := range 3 {
					if rs := w.won(split, attempt, count); len(rs) != 0 {
						wrong(t, "P21.2: of %d tries: Won(%d, %d, %d): %v", tries, split, attempt, count, rs)
					}
				}
			}
		}
		w.ask("Won of nothing")
		// None of these counts as being told.
		if rs := w.won(3, tries, 0); len(rs) != 1 {
			wrong(t, "P21.2: of %d tries: Won(3, %d, 0): %v", tries, tries, rs)
		}
		if rs := w.won(1, 1, 2); len(rs) != 2 || !slices.Equal(rs[0].Pairs, list("b:1", "a:1", "c:1")) {
			wrong(t, "P21.2: of %d tries: Won(1, 1, 2): %v", tries, rs)
		}
		w.ask("Won")
	}
}

// TestWonTwice tells of each split twice: the first one counts, whatever it
// told.
func TestWonTwice(t *testing.T) {
	for _, then := range [][2]int{{1, 2}, {1, 3}, {2, 1}, {2, 0}, {3, 0}, {1, 0}} {
		for _, count := range slices.Concat(edges(), []int{-1, 0, 1, 3}) {
			w := busy(t, mostTries)
			if rs := w.won(1, 1, count); len(rs) != 0 {
				wrong(t, "P21.2: Won(1, 1, %d) where two chunks wait: %v", count, rs)
			}
			if rs := w.won(1, then[0], then[1]); len(rs) != 0 {
				wrong(t, "P21.2: Won(1, %d, %d), told already: %v", then[0], then[1], rs)
			}
			w.ask("Won, told twice")
			_, rs := w.push(chunk(1, 1, 1, 2))
			if len(rs) == 1 != (count == 3) {
				wrong(t, "P21.2: Won(1, 1, %d), and the third chunk: %v", count, rs)
			}
			_, rs = w.push(chunk(1, 1, 2, 1))
			if len(rs) != 0 {
				wrong(t, "P21.2: Won(1, 1, %d), told twice, and another attempt's chunk: %v", count, rs)
			}
			w.ask("pushes behind that")
		}
		w := busy(t, mostTries)
		for _, split := range []int{0, 3} {
			w.won(split, 1, 0)
			if rs := w.won(split, then[0], then[1]); len(rs) != 0 {
				wrong(t, "P21.2: Won(%d, %d, %d) of what is merged: %v", split, then[0], then[1], rs)
			}
			w.ask("Won of what is merged")
		}
	}
}

// TestWonAmongItsChunks tells who won ahead of all chunks, behind some and
// behind all, with counts of all kinds: the split is merged just when so many
// wait.
func TestWonAmongItsChunks(t *testing.T) {
	for ahead := range 5 {
		for _, count := range slices.Concat(edges(), []int{-2, -1, 0, 1, 2, 3, 4, 5, mostPairs}) {
			for attempt := 1; attempt <= mostTries; attempt++ {
				w := watch(t, config(2), 0, 1)
				all := []api.Pair(nil)
				for seq := range 5 {
					if seq == ahead {
						break
					}
					all = append(all, list("k:"+strconv.Itoa(seq))...)
					w.push(chunk(0, 1, attempt, seq, all[seq]))
				}
				is := count == ahead
				if rs := w.won(1, attempt, count); len(rs) == 1 != is {
					wrong(t, "P21.2: Won with %d chunks where %d wait: %v", count, ahead, rs)
				}
				for seq := ahead; seq < 5; seq++ {
					w.ask("Won, or a chunk")
					x := list("k:" + strconv.Itoa(seq))
					ack, rs := w.push(chunk(0, 1, attempt, seq, x...))
					if !is {
						all = append(all, x...)
					}
					now := !is && count == seq+1
					is = is || now
					next := seq + 1
					if is {
						next = mostPairs
					}
					if ack.Next != next || len(rs) == 1 != now || now && !slices.Equal(rs[0].Pairs, all) {
						wrong(t, "P21.3: Won with %d chunks behind %d, and chunk %d: %+v, %v", count, ahead, seq, ack, rs)
					}
				}
				w.ask("all chunks")
				if got := w.r.Merged(); slices.Equal(got, []int{1}) != is {
					wrong(t, "P21.3: Won with %d chunks behind %d of 5: Merged %v", count, ahead, got)
				}
			}
		}
	}
}

// inChunks answers n pairs in chunks of the greatest size.
func inChunks(n int) [][]api.Pair {
	return slices.Collect(slices.Chunk(keyed("k", n), mostChunk))
}

// TestAsManyPairsAsMayBe pushes as many pairs as a split may have, one less and
// more, with who won told ahead and behind.
func TestAsManyPairsAsMayBe(t *testing.T) {
	for n := mostPairs - 2; n <= mostPairs+2*mostChunk; n++ {
		for _, early := range []bool{true, false} {
			w := watch(t, config(2), 0, 1)
			chunks := inChunks(n)
			w.push(chunk(0, 1, 2, 0, list("x:1")...))
			var rs []api.Record
			if early {
				w.won(1, 1, len(chunks))
			}
			var ack api.Message
			for seq, ps := range chunks {
				ack, rs = w.push(chunk(0, 1, 1, seq, ps...))
			}
			if !early {
				rs = w.won(1, 1, len(chunks))
			}
			w.ask(strconv.Itoa(n) + " pairs")
			if n <= mostPairs {
				if len(rs) != 1 || !slices.Equal(rs[0].Pairs, keyed("k", n)) || !slices.Equal(w.r.Pairs(1), keyed("k", n)) || w.r.Staged() != 0 {
					wrong(t, "P21.3: %d pairs, told early %t: %v", n, early, rs)
				}
				continue
			}
			if len(rs) != 0 || ack.Next != len(chunks) || w.r.Staged() != 2 {
				wrong(t, "P21.3: %d pairs, told early %t: %v, %+v, Staged %d", n, early, rs, ack, w.r.Staged())
			}
			neverMerged(t, w, len(chunks))
		}
	}
}

// neverMerged goes on with split 1, of which attempt 1 has too many pairs in so
// many chunks.
func neverMerged(t *testing.T, w *watched, chunks int) {
	t.Helper()
	for seq := range 3 {
		w.push(chunk(0, 1, 2, seq+1))
		w.push(chunk(0, 1, 1, chunks))
		w.push(chunk(0, 1, 1, chunks+seq))
		w.won(1, 1, chunks+seq)
		w.won(1, 2, seq+2)
		w.ask("calls for a split of too many pairs")
	}
	if got := w.r.Merged(); len(got) != 0 || len(w.journal) != 0 {
		wrong(t, "P21.3: a split of too many pairs: Merged %v, records %v", got, w.journal)
	}
	if rs := w.won(0, 1, 0); len(rs) != 1 {
		wrong(t, "P21.3: another split beside one of too many pairs: %v", rs)
	}
}

// TestDropped merges a split of which several attempts wait: its own are gone,
// those of other splits stay.
func TestDropped(t *testing.T) {
	for winner := 1; winner <= mostTries; winner++ {
		w := watch(t, config(3), 2, 4)
		for split := range 3 {
			for attempt := 1; attempt <= mostTries; attempt++ {
				for seq := range attempt {
					w.push(chunk(2, split, attempt, seq, list("k:"+strconv.Itoa(100*split+10*attempt+seq))...))
				}
			}
		}
		rs := w.won(1, winner, winner)
		if len(rs) != 1 || len(rs[0].Pairs) != winner || rs[0].Attempt != winner || w.r.Staged() != 2*mostTries {
			wrong(t, "P21.3: attempt %d won: %v, Staged %d", winner, rs, w.r.Staged())
		}
		w.ask("a merge among others")
		for attempt := 1; attempt <= mostTries; attempt++ {
			for _, split := range []int{0, 2} {
				if ack, _ := w.push(chunk(2, split, attempt, 99)); ack.Next != attempt {
					wrong(t, "P21.3: behind a merge of split 1: of split %d, attempt %d: %+v", split, attempt, ack)
				}
			}
			if ack, _ := w.push(chunk(2, 1, attempt, 0, list("k:9")...)); ack.Next != mostPairs {
				wrong(t, "P21.3: behind a merge: of attempt %d: %+v", attempt, ack)
			}
		}
		w.ask("pushes behind a merge")
	}
}

// TestMarks merges splits in several orders, for each list of marks: a snapshot
// comes just where the marks say so.
func TestMarks(t *testing.T) {
	for splits := 1; splits <= mostSplits; splits++ {
		for bits := range 1 << splits {
			var marks []int
			for mark := 1; mark <= splits; mark++ {
				if bits>>(mark-1)&1 == 1 {
					marks = append(marks, mark)
				}
			}
			if len(marks) > 4 {
				continue
			}
			for turn := range splits {
				atMarks(t, splits, marks, turn)
			}
		}
	}
}

// atMarks merges splits by turns from one of them on, falling, and each of them
// by Push or Won.
func atMarks(t *testing.T, splits int, marks []int, turn int) {
	t.Helper()
	w := watch(t, config(splits, marks...), 0, 1)
	var snaps []api.Snap
	var set []int
	for i := range splits {
		split := (turn + splits - i) % splits
		set = slices.Sorted(slices.Values(append(set, split)))
		want := []api.Record{{Kind: api.RecMerged, Split: split, Attempt: 2, Pairs: list("k:" + strconv.Itoa(split))}}
		if slices.Contains(marks, i+1) {
			want = append(want, api.Record{Kind: api.RecSnap, Set: set})
			var ps []api.Pair
			for _, s := range set {
				ps = append(ps, list("k:"+strconv.Itoa(s))...)
			}
			snaps = append(snaps, api.Snap{Set: set, Pairs: ps})
		}
		var rs []api.Record
		if i%2 == 0 {
			w.push(chunk(0, split, 2, 0, want[0].Pairs...))
			rs = w.won(split, 2, 1)
		} else {
			w.won(split, 2, 1)
			_, rs = w.push(chunk(0, split, 2, 0, want[0].Pairs...))
		}
		if !sameRecords(rs, want) {
			wrong(t, "P21.3: %d splits, marks %v, merge %d: %v, not %v", splits, marks, i+1, rs, want)
		}
		if got := w.r.Snaps(); !slices.EqualFunc(got, snaps, sameSnap) {
			wrong(t, "P21.1: %d splits, marks %v, behind merge %d: Snaps %v, not %v", splits, marks, i+1, got, snaps)
		}
		// Calls for what is merged tell no snapshot again.
		w.won(split, 2, 1)
		w.push(chunk(0, split, 2, 0))
		w.ask("merge " + strconv.Itoa(i+1))
	}
	again := w.anew(9)
	again.ask("New of all")
	if !slices.EqualFunc(again.r.Snaps(), snaps, sameSnap) {
		wrong(t, "P21.4: begun anew: Snaps %v, not %v", again.r.Snaps(), snaps)
	}
}

// TestTwoMarksAtOnce has records that merged three splits without a snapshot,
// and then two marks one behind the other.
func TestTwoMarksAtOnce(t *testing.T) {
	w := watch(t, config(5, 1, 3, 4, 5), 2, 1, merged(2, 4), merged(2, 0), merged(2, 2))
	w.ask("New")
	if len(w.r.Snaps()) != 0 {
		wrong(t, "P21.4: New of merges tells snapshots: %v", w.r.Snaps())
	}
	if rs := w.won(3, 1, 0); !sameRecords(rs, []api.Record{{Kind: api.RecMerged, Part: 2, Split: 3, Attempt: 1}, snapped(2, 0, 2, 3, 4)}) {
		wrong(t, "P21.3: the fourth merge: %v", rs)
	}
	if rs := w.won(1, 3, 0); !sameRecords(rs, []api.Record{{Kind: api.RecMerged, Part: 2, Split: 1, Attempt: 3}, snapped(2, 0, 1, 2, 3, 4)}) {
		wrong(t, "P21.3: the fifth merge: %v", rs)
	}
	w.ask("two marks")
	if s := w.r.Snaps(); len(s) != 2 || s[0].Reason != api.Fine {
		wrong(t, "P21.1: Snaps: %v", s)
	}
}

// TestWhatWaitsIsForgotten begins anew of what another told: neither chunks nor
// who won are there.
func TestWhatWaitsIsForgotten(t *testing.T) {
	w := busy(t, mostTries)
	again := w.anew(7)
	again.ask("New of what was told")
	if again.r.Staged() != 0 || again.r.Hello().Epoch != 7 {
		wrong(t, "P21.4: begun anew: Staged %d, Hello %+v", again.r.Staged(), again.r.Hello())
	}
	if ack, rs := again.push(chunk(1, 2, 1, 1)); ack.Next != 0 || ack.Epoch != 7 || len(rs) != 0 {
		wrong(t, "P21.4: begun anew: Push of the chunk that was wanted: %+v, %v", ack, rs)
	}
	again.push(chunk(1, 2, 3, 0, list("a:3")...))
	if rs := again.won(2, 3, 1); len(rs) != 1 || rs[0].Attempt != 3 {
		wrong(t, "P21.4: begun anew: Won of another attempt: %v", rs)
	}
	again.ask("Won of another attempt")
	w.ask("another one's calls")
}

// TestEpochs has the greatest and the least epoch in every ack.
func TestEpochs(t *testing.T) {
	for _, epoch := range []int{1, 2, math.MaxInt32 + 1, math.MaxInt} {
		w := watch(t, config(1), 0, epoch)
		ack, _ := w.push(chunk(0, 0, 1, 0))
		w.won(0, 1, 1)
		last, _ := w.push(chunk(0, 0, 1, 0))
		if ack.Epoch != epoch || last.Epoch != epoch {
			wrong(t, "P21.2: acks in epoch %d: %+v, %+v", epoch, ack, last)
		}
	}
}
