package stage

import (
	"math"
	"slices"
	"testing"
	"time"

	"staithe/api"
)

func TestTheChaptersExample(t *testing.T) {
	a, b, c := []api.Pair{{Key: "a"}}, []api.Pair{{Key: "b"}}, []api.Pair{{Key: "c"}}
	s := New()
	for i, x := range []struct {
		seq  int
		ps   []api.Pair
		then int
	}{{0, a, 1}, {0, b, 1}, {1, c, 2}} {
		if got := s.Put(2, 1, x.seq, x.ps); got != x.then {
			wrong(t, "P18.1: put %d: %d, not %d", i, got, x.then)
		}
	}
	taken(t, s, 2, 1, 2, true, []api.Pair{{Key: "a"}, {Key: "c"}})
	dropped(t, s, 2, 1)
}

func TestTheBounds(t *testing.T) {
	if api.MaxSplits != mostSplits || api.MaxTries != mostTries || api.MaxPairs != mostChunks {
		wrong(t, "api: %d splits, %d tries, %d pairs", api.MaxSplits, api.MaxTries, api.MaxPairs)
	}
}

func TestNew(t *testing.T) {
	w := watch(t)
	if w.s == nil {
		t.Fatal("P18.1: New: nil")
	}
	w.ask("New")
	for split := -1; split <= mostSplits; split++ {
		w.drop(split)
	}
	w.ask("Drop of a new one")
}

func TestTwoStagesShareNothing(t *testing.T) {
	one, two := watch(t), watch(t)
	ps := chunk(1, 3)
	one.put(2, 1, 0, ps)
	two.ask("Put to another one")
	two.put(2, 1, 0, ps)
	one.put(2, 1, 1, chunk(2, 2))
	two.put(2, 1, 1, chunk(3, 2))
	two.put(4, 3, 0, chunk(4, 1))
	one.ask("Put to both")
	two.ask("Put to both")
	spoil(one.take(2, 1, 2))
	two.ask("another one's answer written over")
	one.drop(2)
	two.ask("Drop of another one")
	two.drop(4)
	one.ask("Drop of another one")
	watch(t).ask("acts of others")
	full(t).ask("acts of others")
}

func TestPutAsItGoesOn(t *testing.T) {
	for split := range mostSplits {
		for attempt := 1; attempt <= mostTries; attempt++ {
			w := watch(t)
			for seq := range mostChunks {
				if got := w.s.Put(split, attempt, seq, chunk(seq, seq%3)); got != seq+1 {
					wrong(t, "P18.1: Put(%d, %d, %d): %d", split, attempt, seq, got)
				}
				w.words, _ = w.words.put(split, attempt, seq, chunk(seq, seq%3))
				w.ask("Put")
			}
			for _, seq := range []int{mostChunks, mostChunks + 1, mostChunks - 1, 0} {
				if got := w.s.Put(split, attempt, seq, chunk(99, 2)); got != mostChunks {
					wrong(t, "P18.1: Put(%d, %d, %d), where as many are kept as may be: %d", split, attempt, seq, got)
				}
				w.ask("Put of one too many")
			}
		}
	}
}

// TestPutOfEachSeq has chunks of one attempt, and of some beside it: of the
// same split, and of the same number at other splits.
func TestPutOfEachSeq(t *testing.T) {
	for next := range mostChunks + 1 {
		for _, seq := range seqsAsked(next) {
			w := watch(t)
			for i := range next {
				w.put(2, 1, i, chunk(i, 2))
			}
			w.put(2, 2, 0, chunk(50, 1))
			w.put(3, 1, 0, chunk(51, 1))
			w.put(3, 1, 1, chunk(52, 1))
			want := next
			if seq == next && next < mostChunks {
				want = next + 1
			}
			for range 2 {
				w.words, _ = w.words.put(2, 1, seq, chunk(60, 3))
				if got := w.s.Put(2, 1, seq, chunk(60, 3)); got != want {
					wrong(t, "P18.1: Put(2, 1, %d, ..), where %d is wanted: %d, not %d", seq, next, got, want)
				}
				w.ask("Put twice")
			}
			if t.Failed() {
				t.Fatalf("P18.1: Put(2, 1, %d, ..), where %d is wanted", seq, next)
			}
		}
	}
}

// TestPutOfEachSplitAndAttempt has splits, attempts and seqs, each of which
// may be or not, to a stage that is empty, and to one of much.
func TestPutOfEachSplitAndAttempt(t *testing.T) {
	var wrongs [4]int
	for _, split := range splitsAsked() {
		for _, attempt := range attemptsAsked() {
			for _, seq := range []int{math.MinInt, -1, 0, 1, 2, 5, mostChunks - 1, mostChunks, mostChunks + 1, math.MaxInt} {
				w := watch(t)
				wrongs[howMany(split < 0 || split >= mostSplits, attempt < 1 || attempt > mostTries, seq != 0)]++
				w.put(split, attempt, seq, chunk(1, 2))
				w.askOf("Put", split, attempt)
				if got, want := w.s.Count(), len(w.words); got != want {
					wrong(t, "P18.1: Put(%d, %d, %d, ..) to an empty one: Count %d, not %d", split, attempt, seq, got, want)
				}
				if t.Failed() {
					t.FailNow()
				}
			}
		}
	}
	for n, times := range wrongs[1:] {
		if times < 50 {
			wrong(t, "what was asked is too much alike: %d puts of which %d were wrong", times, n+1)
		}
	}
}

// howMany answers how many of all hold.
func howMany(all ...bool) int {
	n := 0
	for _, is := range all {
		if is {
			n++
		}
	}
	return n
}

func TestPutToOneOfMuch(t *testing.T) {
	w := full(t)
	for _, split := range splitsAsked() {
		for _, attempt := range attemptsAsked() {
			for _, seq := range []int{-1, 0, w.words.next(split, attempt) + 1, math.MaxInt} {
				w.put(split, attempt, seq, chunk(1, 2))
				w.askOf("Put of what is not wanted", split, attempt)
			}
		}
		w.ask("Put of what is not wanted")
		if t.Failed() {
			t.Fatalf("P18.1: Put of split %d", split)
		}
	}
	for split := mostSplits - 1; split >= 0; split-- {
		for _, attempt := range []int{2, 3, 1} {
			w.put(split, attempt, w.words.next(split, attempt), chunk(10*split+attempt, 3))
			w.ask("Put of what is wanted")
		}
	}
}

// TestEveryAttemptStandsAlone has as many chunks of every attempt as may be,
// which come by turns.
func TestEveryAttemptStandsAlone(t *testing.T) {
	w := watch(t)
	for seq := range mostChunks {
		for i := range mostSplits * mostTries {
			// By a number that has no divisor with 18: each attempt once, in another order.
			at := (i*7 + seq) % (mostSplits * mostTries)
			w.put(at%mostSplits, 1+at/mostSplits, seq, chunk(100*at+seq, 1))
		}
		w.ask("Put of every attempt by turns")
	}
	if got := w.s.Count(); got != mostSplits*mostTries {
		wrong(t, "P18.1: Count of all attempts: %d", got)
	}
	for split := range mostSplits {
		for attempt := 1; attempt <= mostTries; attempt++ {
			w.put(split, attempt, mostChunks, chunk(1, 1))
		}
	}
	w.ask("Put of one too many of every attempt")
	for split := range mostSplits {
		dropped(t, w.s, split, mostTries)
	}
	w.words = nil
	w.ask("Drop of all")
}

// TestPairsOfEachKind has chunks of none, of one, of many and of more pairs
// than a split may have, and pairs that are alike, empty, or of any bytes.
func TestPairsOfEachKind(t *testing.T) {
	any := string([]byte{0, 255, '\n', 254})
	all := [][]api.Pair{
		nil, {}, chunk(0, 9)[:0], chunk(1, 1), chunk(2, 2), chunk(3, 8), chunk(4, 9), chunk(5, 40), chunk(6, 41), chunk(7, 1000),
		{{}}, {{}, {}}, {{Key: "a"}, {Value: "a"}, {Key: "a"}}, {{Key: any, Value: any + any}}, {{Key: "b", Value: "2"}, {Key: "b", Value: "1"}, {Key: "a", Value: "3"}}, nil,
	}
	w := watch(t)
	var pairs []api.Pair
	for seq, ps := range all {
		alone := watch(t)
		alone.put(5, 3, 0, ps)
		alone.ask("Put of one chunk")
		if got := alone.s.Count(); got != 1 {
			wrong(t, "P18.1: Count behind a chunk of %d pairs: %d", len(ps), got)
		}
		taken(t, alone.s, 5, 3, 1, true, ps)
		dropped(t, alone.s, 5, 1)
		w.put(0, 1, seq, ps)
		w.ask("Put of chunks of each kind")
		pairs = append(pairs, ps...)
	}
	taken(t, w.s, 0, 1, len(all), true, pairs)
}

func TestChunksOfNoPairsAlone(t *testing.T) {
	w := watch(t)
	for seq := range mostChunks {
		w.put(1, 2, seq, nil)
		taken(t, w.s, 1, 2, seq+1, true, nil)
		taken(t, w.s, 1, 2, 0, false, nil)
	}
	w.ask("chunks of no pairs")
	dropped(t, w.s, 1, 1)
}

// TestOfWhatThereIsNot asks for splits and attempts that there are none of.
func TestOfWhatThereIsNot(t *testing.T) {
	for _, w := range []*watched{watch(t), full(t)} {
		for _, split := range splitsAsked() {
			for _, attempt := range attemptsAsked() {
				if split >= 0 && split < mostSplits && attempt >= 1 && attempt <= mostTries {
					continue
				}
				if got := w.s.Next(split, attempt); got != 0 {
					wrong(t, "P18.1: Next(%d, %d): %d", split, attempt, got)
				}
				taken(t, w.s, split, attempt, 0, true, nil)
				for _, count := range []int{-1, 1, 2, mostChunks, math.MinInt, math.MaxInt} {
					taken(t, w.s, split, attempt, count, false, nil)
				}
			}
			if split < 0 || split >= mostSplits {
				dropped(t, w.s, split, 0)
			}
		}
		w.ask("asking for what there is not")
	}
}

func TestNextOfSomeAndOfOthers(t *testing.T) {
	s := New()
	s.Put(3, 2, 0, chunk(1, 2))
	s.Put(3, 2, 1, chunk(2, 2))
	s.Put(4, 1, 0, nil)
	for split := range mostSplits {
		for attempt := 1; attempt <= mostTries; attempt++ {
			want := 0
			switch {
			case split == 3 && attempt == 2:
				want = 2
			case split == 4 && attempt == 1:
				want = 1
			}
			if got := s.Next(split, attempt); got != want {
				wrong(t, "P18.1: Next(%d, %d): %d, not %d", split, attempt, got, want)
			}
		}
	}
	if got := s.Count(); got != 2 {
		wrong(t, "P18.1: Count behind Next of many: %d", got)
	}
}

func TestTakeOfEachCount(t *testing.T) {
	w := watch(t)
	w.put(4, 3, 0, chunk(70, 2))
	w.put(0, 2, 0, chunk(71, 2))
	var pairs []api.Pair
	for kept := range mostChunks + 1 {
		for _, count := range seqsAsked(kept) {
			for range 2 {
				if count == kept {
					taken(t, w.s, 4, 2, count, true, pairs)
				} else {
					taken(t, w.s, 4, 2, count, false, nil)
				}
			}
		}
		w.ask("Take of each count")
		ps := chunk(kept, kept%5)
		w.put(4, 2, kept, ps)
		if kept < mostChunks {
			pairs = append(pairs, ps...)
		}
	}
}

// TestDropOfEachSplit drops a split of which no, one or several attempts are
// there, beside others of which some are.
func TestDropOfEachSplit(t *testing.T) {
	for split := range mostSplits {
		for some := range 1 << mostTries {
			w := watch(t)
			had := 0
			for attempt := 1; attempt <= mostTries; attempt++ {
				other := (split + attempt) % mostSplits
				w.put(other, attempt, 0, chunk(attempt, attempt))
				w.put(other, mostTries, 0, chunk(9, 2))
				if some>>(attempt-1)&1 == 0 {
					continue
				}
				had++
				for seq := range 1 + attempt*some%4 {
					w.put(split, attempt, seq, chunk(10*attempt+seq, seq))
				}
			}
			was := w.words
			w.words, _ = w.words.dropped(split)
			dropped(t, w.s, split, had)
			w.ask("Drop")
			dropped(t, w.s, split, 0)
			w.ask("Drop twice")
			anew(w, was, split)
			if t.Failed() {
				t.Fatalf("P18.1: Drop(%d), of attempts %03b", split, some)
			}
		}
	}
}

// anew puts chunks of a split that was dropped, of which was tells what was
// there: first the one that was wanted then, which is not now, then from 0 on.
func anew(w *watched, was byWords, split int) {
	w.t.Helper()
	for attempt := 1; attempt <= mostTries; attempt++ {
		if then := was.next(split, attempt); then > 0 {
			w.put(split, attempt, then, chunk(80, 2))
		}
	}
	w.ask("Put of what was wanted ahead of Drop")
	for seq := range 3 {
		for attempt := mostTries; attempt > 0; attempt-- {
			w.put(split, attempt, seq, chunk(90+10*attempt+seq, 2))
			w.ask("Put anew")
		}
	}
	dropped(w.t, w.s, split, mostTries)
	w.words, _ = w.words.dropped(split)
	w.ask("Drop of what was put anew")
}

func TestDropAgainAndAgain(t *testing.T) {
	w := watch(t)
	for round := range 30 {
		for seq := range mostChunks {
			w.put(3, 1, seq, chunk(round+seq, 1))
			w.put(3, 3, seq, nil)
		}
		w.put(2, 1, round, chunk(round, 2))
		w.drop(3)
		w.ask("Drop")
	}
	taken(t, w.s, 2, 1, 29, false, nil)
	if ps := w.take(2, 1, 30); len(ps) != 60 {
		wrong(t, "P18.1: of another split behind many drops: %s", brief(ps))
	}
}

func TestAskingChangesNothing(t *testing.T) {
	w := full(t)
	for range 5 {
		w.ask("asking")
		for split := range mostSplits {
			w.put(split, 1, -1, chunk(1, 1))
			w.put(split, 0, 0, chunk(1, 1))
			w.put(split, mostTries+1, 0, chunk(1, 1))
			w.take(split, 2, mostChunks)
		}
		w.drop(-1)
		w.drop(mostSplits)
	}
}

func TestNilStage(t *testing.T) {
	var none *Stage
	splits, attempts := splitsAsked(), attemptsAsked()
	for _, split := range splits {
		for _, attempt := range attempts {
			for _, n := range []int{math.MinInt, -1, 0, 1, mostChunks, math.MaxInt} {
				if got := none.Put(split, attempt, n, chunk(1, 2)); got != 0 {
					wrong(t, "R3: Put(%d, %d, %d, ..): %d", split, attempt, n, got)
				}
				if ps, ok := none.Take(split, attempt, n); ok || len(ps) != 0 {
					wrong(t, "R3: Take(%d, %d, %d): %s, %t", split, attempt, n, brief(ps), ok)
				}
			}
			if got := none.Next(split, attempt); got != 0 {
				wrong(t, "R3: Next(%d, %d): %d", split, attempt, got)
			}
		}
		if got := none.Drop(split); got != 0 {
			wrong(t, "R3: Drop(%d): %d", split, got)
		}
	}
	if got := none.Put(0, 1, 0, nil); got != 0 {
		wrong(t, "R3: Put of no pairs: %d", got)
	}
	if got := none.Count(); got != 0 {
		wrong(t, "R3: Count: %d", got)
	}
}

// TestStageThatNewDidNotAnswer has a stage of zeros: no call of it panics.
func TestStageThatNewDidNotAnswer(t *testing.T) {
	w := &watched{t: t, s: &Stage{}}
	w.drop(1)
	w.ask("nothing")
	w.put(1, 2, 0, chunk(1, 2))
	w.ask("Put")
}

// TestSizes has many calls, and great chunks: all ends in a time that the
// sizes explain.
func TestSizes(t *testing.T) {
	begun := time.Now()
	great := make([]api.Pair, 1<<20)
	great[0].Key, great[len(great)-1].Value = "first", "last"
	s := New()
	s.Put(1, 1, 0, great)
	s.Put(1, 1, 1, great)
	if ps, ok := s.Take(1, 1, 2); !ok || !slices.Equal(ps, append(slices.Clone(great), great...)) {
		wrong(t, "P18.1: Take of great chunks: %d pairs, %t", len(ps), ok)
	}
	for range 10_000 {
		if s.Put(1, 1, 0, great) != 2 || s.Put(1, 1, 3, great) != 2 || s.Put(6, 1, 0, great) != 0 {
			t.Fatal("P18.1: Put of great chunks that are not wanted")
		}
		if _, ok := s.Take(1, 1, 1); ok {
			t.Fatal("P18.1: Take of fewer great chunks")
		}
	}
	small := chunk(1, 8)
	for round := range 1000 {
		for split := range mostSplits {
			for seq := range mostChunks {
				if got := s.Put(split, 1+round%2*2, seq, small); got != seq+1 && split != 1 {
					t.Fatalf("P18.1: Put(%d, .., %d): %d", split, seq, got)
				}
			}
		}
		for split := range mostSplits {
			if s.Drop(split) == 0 || s.Next(split, 1) != 0 {
				t.Fatalf("P18.1: Drop(%d)", split)
			}
		}
	}
	if got := s.Count(); got != 0 {
		wrong(t, "P18.1: Count behind Drop of all: %d", got)
	}
	if took := time.Since(begun); took > 10*time.Second {
		wrong(t, "R1: the greatest sizes took %v", took)
	}
}
