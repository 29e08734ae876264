package reducer

import (
	"math"
	"slices"
	"strconv"
	"strings"
	"testing"

	"staithe/api"
)

func TestTheChaptersExample(t *testing.T) {
	r := made(t, config(1), 0, 1)
	rs := r.Won(0, 1, 0)
	if want := []api.Record{{Kind: api.RecMerged, Attempt: 1}}; !sameRecords(rs, want) {
		wrong(t, "P21.2: Won(0, 1, 0): %v, not %v", rs, want)
	}
	if got := r.Merged(); !slices.Equal(got, []int{0}) {
		wrong(t, "P21.1: Merged: %v, not 0", got)
	}
}

// TestByHand walks through a part whose answers are written out.
func TestByHand(t *testing.T) {
	r := made(t, config(3, 2), 1, 7)
	push := func(m api.Message, next int, want ...api.Record) {
		t.Helper()
		ack, rs := r.Push(m)
		wantAck := api.Message{Kind: api.MsgAck, Split: m.Split, Attempt: m.Attempt, Part: 1, Epoch: 7, Next: next}
		if !sameMessage(ack, wantAck) || !sameRecords(rs, want) {
			wrong(t, "P21.2: Push(%+v): %+v, %v, not %+v, %v", m, ack, rs, wantAck, want)
		}
	}
	won := func(split, attempt, count int, want ...api.Record) {
		t.Helper()
		if rs := r.Won(split, attempt, count); !sameRecords(rs, want) {
			wrong(t, "P21.2: Won(%d, %d, %d): %v, not %v", split, attempt, count, rs, want)
		}
	}
	hello := func(want api.Message) {
		t.Helper()
		if got := r.Hello(); !sameMessage(got, want) {
			wrong(t, "P21.1: Hello: %+v, not %+v", got, want)
		}
	}
	hello(api.Message{Kind: api.MsgHello, Part: 1, Epoch: 7})
	push(chunk(1, 2, 1, 0, list("d:1", "b:2")...), 1)
	push(chunk(1, 2, 2, 0, list("d:1")...), 1)
	push(chunk(1, 2, 1, 1, list("b:3")...), 2)
	push(chunk(1, 2, 1, 3, list("b:4")...), 2)
	push(chunk(1, 0, 2, 0, list("b:7")...), 1)
	if r.Staged() != 3 || len(r.Merged()) != 0 {
		wrong(t, "P21.1: Staged %d, Merged %v", r.Staged(), r.Merged())
	}
	won(2, 1, 3)
	won(2, 2, 1)
	push(chunk(1, 2, 1, 2), mostPairs, api.Record{Kind: api.RecMerged, Part: 1, Split: 2, Attempt: 1, Pairs: list("d:1", "b:2", "b:3")})
	if r.Staged() != 1 || !slices.Equal(r.Pairs(2), list("d:1", "b:2", "b:3")) || len(r.Pairs(0)) != 0 {
		wrong(t, "P21.3: Staged %d, Pairs(2) %v, Pairs(0) %v", r.Staged(), r.Pairs(2), r.Pairs(0))
	}
	hello(api.Message{Kind: api.MsgHello, Part: 1, Epoch: 7, Set: []int{2}})
	won(0, 2, 1, api.Record{Kind: api.RecMerged, Part: 1, Split: 0, Attempt: 2, Pairs: list("b:7")}, api.Record{Kind: api.RecSnap, Part: 1, Set: []int{0, 2}})
	push(chunk(1, 2, 2, 1), mostPairs)
	if s := r.Snaps(); len(s) != 1 || !sameSnap(s[0], api.Snap{Set: []int{0, 2}, Pairs: list("b:7", "b:2", "b:3", "d:1")}) {
		wrong(t, "P21.1: Snaps: %v", s)
	}
	if ps, why, ok := r.Output(); len(ps) != 0 || why != api.Fine || ok {
		wrong(t, "P21.1: Output: %v, %d, %t", ps, why, ok)
	}
	won(1, 3, 0, api.Record{Kind: api.RecMerged, Part: 1, Split: 1, Attempt: 3})
	if ps, why, ok := r.Output(); !slices.Equal(ps, list("b:7", "b:2", "b:3", "d:1")) || why != api.Fine || !ok {
		wrong(t, "P21.1: Output: %v, %d, %t", ps, why, ok)
	}
	hello(api.Message{Kind: api.MsgReady, Part: 1, Epoch: 7})
}

// orders answers all orders of the numbers below n.
func orders(n int) [][]int {
	if n == 0 {
		return [][]int{nil}
	}
	var all [][]int
	for _, order := range orders(n - 1) {
		for at := range n {
			all = append(all, slices.Insert(slices.Clone(order), at, n-1))
		}
	}
	return all
}

// TestMerged merges splits in each order: what is told rises.
func TestMerged(t *testing.T) {
	for splits := 1; splits <= 5; splits++ {
		for _, order := range orders(splits) {
			w := watch(t, config(splits), 2, 1)
			for i, split := range order {
				w.push(chunk(2, split, 1, 0, list("k:"+strconv.Itoa(split))...))
				w.won(split, 1, 1)
				rising := slices.Sorted(slices.Values(order[:i+1]))
				if got := w.r.Merged(); !slices.Equal(got, rising) {
					wrong(t, "P21.1: behind merges of %v: Merged %v", order[:i+1], got)
				}
				w.ask("merges in another order")
			}
			// Of one key the values stand by rising splits, however they were merged.
			var want []api.Pair
			for split := range splits {
				want = append(want, list("k:"+strconv.Itoa(split))...)
			}
			if ps, why, ok := w.r.Output(); !slices.Equal(ps, want) || why != api.Fine || !ok {
				wrong(t, "P21.1: behind merges of %v: Output %v, %d, %t, not %v", order, ps, why, ok, want)
			}
		}
	}
}

func TestPairs(t *testing.T) {
	w := watch(t, config(4), 0, 1, merged(0, 0, "a:1"), merged(0, 3, "b:2", "a:3"))
	w.push(chunk(0, 1, 1, 0, list("c:4")...))
	w.push(chunk(0, 2, 1, 0, list("d:5")...))
	w.won(1, 1, 1)
	for _, split := range slices.Concat(edges(), about(0), about(3), about(mostSplits)) {
		var want []api.Pair
		switch split {
		case 0:
			want = list("a:1")
		case 1:
			want = list("c:4")
		case 3:
			want = list("b:2", "a:3")
		}
		if got := w.r.Pairs(split); !slices.Equal(got, want) {
			wrong(t, "P21.1: Pairs(%d): %v, not %v", split, got, want)
		}
		w.pairs("merges", split)
	}
}

// whole answers a reducer of part 2, all of whose splits are merged, with these
// pairs.
func whole(t *testing.T, c api.Config, all ...[]api.Pair) *watched {
	t.Helper()
	var rs []api.Record
	c.Job.Splits = make([][]api.Pair, len(all))
	for split, ps := range all {
		rs = append(rs, api.Record{Kind: api.RecMerged, Part: 2, Split: split, Attempt: 1, Pairs: ps})
	}
	return watch(t, c, 2, 5, rs...)
}

// output holds Output and Hello of a part that is whole against what they are to
// be.
func output(t *testing.T, what string, w *watched, want []api.Pair, reason int) {
	t.Helper()
	w.ask(what)
	if ps, why, ok := w.r.Output(); !slices.Equal(ps, want) || why != reason || !ok {
		wrong(t, "P21.1: %s: Output: %s, %d, %t, not %s, %d, true", what, brief(ps), why, ok, brief(want), reason)
	}
	if got, hello := w.r.Hello(), (api.Message{Kind: api.MsgReady, Part: 2, Epoch: 5, Reason: reason}); !sameMessage(got, hello) {
		wrong(t, "P21.1: %s: Hello: %+v, not %+v", what, got, hello)
	}
}

func TestOutput(t *testing.T) {
	c := config(1)
	output(t, "of no pairs", whole(t, c, nil, nil), nil, api.Fine)
	output(t, "of one split", whole(t, c, list("b:1", "a:2", "b:0")), list("a:2", "b:1", "b:0"), api.Fine)
	output(t, "of three splits", whole(t, c, list("b:1", "a:2"), nil, list("a:0", "c:3", "b:0")), list("a:2", "a:0", "b:1", "b:0", "c:3"), api.Fine)
	output(t, "of first values", whole(t, reducing(c, first()), list("b:1"), list("a:2", "b:0"), list("a:1")), list("a:2", "b:1"), api.Fine)
	output(t, "of another key", whole(t, reducing(c, other()), list("b:1"), list("a:2")), list("other:2", "other:1"), api.Fine)
	output(t, "of what tells nothing", whole(t, reducing(c, quiet()), list("b:1"), list("a:2")), nil, api.Fine)
	output(t, "of as many pairs as may be", whole(t, c, keyed("k", mostPairs), nil), keyed("k", mostPairs), api.Fine)
	output(t, "of as many pairs as may be, of splits", whole(t, c, keyed("k", 15), keyed("l", 25)), slices.Concat(keyed("k", 15), keyed("l", 25)), api.Fine)
	output(t, "of one pair too many", whole(t, c, keyed("k", 15), keyed("l", 26)), nil, api.Many)
	output(t, "of first values of many", whole(t, reducing(c, first()), keyed("k", mostPairs), keyed("k", mostPairs)), keyed("k", mostPairs), api.Fine)
	output(t, "of many pairs without a word", whole(t, reducing(c, quiet()), keyed("a", 40), keyed("b", 40), keyed("c", 40), keyed("d", 40), keyed("e", 40), keyed("f", 40)), nil, api.Fine)
	// Each key's run has all the fuel: of two values each takes 17 instructions.
	c.Job.Fuel = 17
	output(t, "of just so much fuel", whole(t, c, list("b:1", "a:2"), list("a:3", "b:4")), list("a:2", "a:3", "b:1", "b:4"), api.Fine)
	c.Job.Fuel = 16
	output(t, "of too little fuel", whole(t, c, list("b:1", "a:2"), list("a:3")), nil, api.Fuel)
	output(t, "of fuel for one value", whole(t, c, list("b:1"), list("a:3")), list("a:3", "b:1"), api.Fine)
}

// TestReasons asks of a reduce that fails with the key "z": a snapshot without
// its split is Fine beside an output that is not.
func TestReasons(t *testing.T) {
	for _, why := range reasons() {
		of := "reason " + strconv.Itoa(why)
		c := reducing(config(3, 1, 2, 3), turns(why))
		w := watch(t, c, 2, 5)
		for i, x := range []struct {
			split  int
			word   string
			set    []int
			reason int
			pairs  []api.Pair
		}{
			{1, "a:1", []int{1}, api.Fine, list("a:1")}, {2, "z:2", []int{1, 2}, why, nil}, {0, "a:0", []int{0, 1, 2}, why, nil},
		} {
			w.push(chunk(2, x.split, 1, 0, list(x.word)...))
			w.won(x.split, 1, 1)
			s := w.r.Snaps()
			if len(s) != i+1 || !sameSnap(s[i], api.Snap{Set: x.set, Reason: x.reason, Pairs: x.pairs}) {
				wrong(t, "P21.1: %s: Snaps: %+v", of, s)
			}
			w.ask(of)
		}
		output(t, of, w, nil, why)
		output(t, of+", begun anew", w.anew(5), nil, why)
		output(t, "no key of "+of, whole(t, c, list("y:1"), list("b:1"), nil), list("b:1", "y:1"), api.Fine)
	}
}

// TestSnapsBehindALaterMerge has a set of splits of which one is merged only
// later: what is told of the set grows.
func TestSnapsBehindALaterMerge(t *testing.T) {
	w := watch(t, config(3), 0, 1, merged(0, 1, "a:1"), snapped(0, 2, 1), snapped(0, 0))
	for _, x := range []struct {
		split int
		first []api.Pair
		then  []api.Pair
	}{
		{0, list("a:1"), list("b:0")}, {2, list("a:1", "b:2"), list("b:0")},
	} {
		w.ask("New")
		w.push(chunk(0, x.split, 2, 0, list("b:"+strconv.Itoa(x.split))...))
		w.won(x.split, 2, 1)
		s := w.r.Snaps()
		if want := []api.Snap{{Set: []int{2, 1}, Pairs: x.first}, {Set: []int{0}, Pairs: x.then}}; !slices.EqualFunc(s, want, sameSnap) {
			wrong(t, "P21.1: behind a merge of %d: Snaps %+v, not %+v", x.split, s, want)
		}
		w.ask("a later merge")
	}
}

// TestHello is held against what it is to be with all fields, behind each merge.
func TestHello(t *testing.T) {
	for _, why := range []int{api.Fine, api.Under, api.Many} {
		c := reducing(config(3), turns(why))
		if why == api.Fine {
			c = config(3)
		}
		for part := range 3 {
			for _, epoch := range []int{1, 2, 77, math.MaxInt} {
				w := watch(t, c, part, epoch)
				var set []int
				for split := range 3 {
					if got, want := w.r.Hello(), (api.Message{Kind: api.MsgHello, Part: part, Epoch: epoch, Set: set}); !sameMessage(got, want) {
						wrong(t, "P21.1: with %d merged: Hello %+v, not %+v", split, got, want)
					}
					w.push(chunk(part, split, 3, 0, list("z:1")...))
					w.won(split, 3, 1)
					set = append(set, split)
				}
				if got, want := w.r.Hello(), (api.Message{Kind: api.MsgReady, Part: part, Epoch: epoch, Reason: why}); !sameMessage(got, want) {
					wrong(t, "P21.1: with all merged: Hello %+v, not %+v", got, want)
				}
			}
		}
	}
}

func TestStaged(t *testing.T) {
	w := watch(t, config(mostSplits), 0, 1)
	n := 0
	for split := range mostSplits {
		for attempt := 1; attempt <= mostTries; attempt++ {
			n++
			for seq := range 3 {
				w.push(chunk(0, split, attempt, seq, list("a:1")...))
				if got := w.r.Staged(); got != n {
					wrong(t, "P21.1: chunks of %d attempts: Staged %d", n, got)
				}
			}
		}
	}
	for split := range mostSplits {
		w.won(split, 1+split%mostTries, 3)
		n -= mostTries
		if got := w.r.Staged(); got != n {
			wrong(t, "P21.3: split %d merged: Staged %d, not %d", split, got, n)
		}
		w.ask("a merge")
	}
}

func TestNilReducer(t *testing.T) {
	var none *Reducer
	for _, n := range slices.Concat(edges(), about(0), about(mostSplits)) {
		for _, m := range []api.Message{chunk(0, 0, 1, n), chunk(n, 0, 1, 0), chunk(0, n, 1, 0, list("a:1")...), chunk(0, 0, n, 0), {Kind: n}} {
			if ack, rs := none.Push(m); !sameMessage(ack, api.Message{}) || len(rs) != 0 {
				wrong(t, "R3: Push of nil: %+v, %v", ack, rs)
			}
		}
		if len(none.Won(0, 1, n))+len(none.Won(0, n, 0))+len(none.Won(n, 1, 0))+len(none.Pairs(n)) != 0 {
			wrong(t, "R3: Won or Pairs of nil: some")
		}
		if ps, why, ok := none.Output(); len(ps) != 0 || why != 0 || ok {
			wrong(t, "R3: Output of nil: %v, %d, %t", ps, why, ok)
		}
		if len(none.Merged())+len(none.Snaps())+none.Staged() != 0 || !sameMessage(none.Hello(), api.Message{}) {
			wrong(t, "R3: of nil: Merged %v, Snaps %v, Staged %d, Hello %+v", none.Merged(), none.Snaps(), none.Staged(), none.Hello())
		}
	}
}

// TestAReducerOfNobody asks a reducer that no call answered: it need tell
// nothing, but it must not panic.
func TestAReducerOfNobody(t *testing.T) {
	var r Reducer
	for range 2 {
		r.Push(chunk(0, 0, 1, 0, list("a:1")...))
		r.Won(0, 1, 0)
		r.Merged()
		r.Pairs(0)
		r.Snaps()
		r.Output()
		r.Hello()
		r.Staged()
	}
}

// heavy answers a configuration of a reduce that takes long: each key has all
// the fuel but a little, and tells nothing.
func heavy() api.Config {
	return reducing(config(mostSplits, 1, 2, 3, 4), []api.Ins{
		{Op: api.OpInt, A: 330}, {Op: api.OpStore, A: 1},
		{Op: api.OpLoad, A: 1}, {Op: api.OpInt, A: 1}, {Op: api.OpSub}, {Op: api.OpDup}, {Op: api.OpStore, A: 1}, {Op: api.OpIf, A: 2},
	})
}

// heavyRecords merge all splits of part 1, with as many keys as may be.
func heavyRecords() []api.Record {
	var rs []api.Record
	for split := range mostSplits {
		rs = append(rs, api.Record{Kind: api.RecMerged, Part: 1, Split: split, Attempt: 1, Pairs: keyed("of"+strconv.Itoa(split), mostPairs)})
	}
	return rs
}

// TestAWholePartIsAskedAgainAndAgain asks a part whose reduce takes long as
// often as the wakes of plays may: it cannot be reduced each time.
func TestAWholePartIsAskedAgainAndAgain(t *testing.T) {
	rs := append(heavyRecords(), snapped(1, 0, 1, 2), snapped(1, 0, 1, 2, 3), snapped(1, 5))
	r := made(t, heavy(), 1, 1, rs...)
	inTime(t, "Hello", 12_000, func() { r.Hello() })
	inTime(t, "Output", 12_000, func() { r.Output() })
	inTime(t, "Snaps", 12_000, func() { r.Snaps() })
	if ps, why, ok := r.Output(); len(ps) != 0 || why != api.Fine || !ok || r.Hello().Kind != api.MsgReady || len(r.Snaps()) != 3 {
		wrong(t, "P21.1: Output: %s, %d, %t, Snaps %v", brief(ps), why, ok, r.Snaps())
	}
}

// TestManyRecords begins a part of a long journal: of many snapshots, and of a
// set, and of pairs, without a bound.
func TestManyRecords(t *testing.T) {
	rs := heavyRecords()
	for i := range 10_000 {
		rs = append(rs, snapped(1, i%6, (i+1)%6, i), merged(1, i%6, "late:1"), merged(2, i%6, "stray:1"))
	}
	long := snapped(1)
	for i := range 500_000 {
		long.Set = append(long.Set, i-250_000)
	}
	rs = append(rs, long)
	rs[5].Pairs = keyed("many", 20_000)
	c := reducing(heavy(), quiet())
	inTime(t, "Snaps of many records", 3, func() {
		r := made(t, c, 1, 1, rs...)
		if s := r.Snaps(); len(s) != 10_001 || len(s[10_000].Set) != 500_000 || len(r.Pairs(5)) != 20_000 || len(r.Pairs(0)) != mostPairs {
			t.Fatalf("P21.1: of many records: %d snapshots", len(s))
		}
	})
}

// TestAPushOfTooManyPairs pushes far more pairs than a chunk may have: they are
// not gone through.
func TestAPushOfTooManyPairs(t *testing.T) {
	w := watch(t, config(2), 0, 1)
	m := chunk(0, 0, 1, 0, make([]api.Pair, 2_000_000)...)
	inTime(t, "Push", 20_000, func() { w.r.Push(m) })
	ack, rs := w.push(m)
	if ack.Next != 0 || len(rs) != 0 || w.r.Staged() != 0 {
		wrong(t, "P21.2: Push of too many pairs: %+v, %v", ack, rs)
	}
	if w.r.Push(chunk(0, 0, 1, 0, api.Pair{Key: strings.Repeat("k", 1<<20)})); w.r.Staged() != 0 {
		wrong(t, "P21.2: Push of a great key: Staged %d", w.r.Staged())
	}
}
