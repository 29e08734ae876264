package mapper

import (
	"math"
	"slices"
	"strconv"
	"testing"

	"staithe/api"
)

func TestTheChaptersExample(t *testing.T) {
	m := made(t, config(nil), 0, 1)
	if got := m.Counts(); !slices.Equal(got, []int{0, 0}) {
		wrong(t, "P19.1: Counts: %v, not 0 0", got)
	}
}

// TestByHand walks through an attempt whose output is written out.
func TestByHand(t *testing.T) {
	c := config(list("d:9"), list("b:1", "a:2", "c:3", "a:4", "b:5"), nil)
	m := made(t, c, 1, 2)
	push := func(part, seq int, pairs ...string) api.Message {
		return api.Message{Kind: api.MsgPush, Split: 1, Attempt: 2, Part: part, Seq: seq, Pairs: list(pairs...)}
	}
	pushes := func(what string, want ...api.Message) {
		t.Helper()
		if got := m.Push(); !slices.EqualFunc(got, want, sameMessage) {
			wrong(t, "P19.1: behind %s: Push: %v, not %v", what, got, want)
		}
	}
	if m.Reason() != api.Fine || !slices.Equal(m.Counts(), []int{3, 2}) || m.Done() {
		wrong(t, "P19.1: Reason %d, Counts %v, Done %t", m.Reason(), m.Counts(), m.Done())
	}
	pushes("New", push(0, 0, "a:2"), push(0, 1, "a:4"), push(1, 0, "b:1"), push(1, 1, "b:5"))
	if got := m.Chunk(0, 2); !slices.Equal(got, list("c:3")) {
		wrong(t, "P19.1: Chunk(0, 2): %v", got)
	}
	if !m.Ack(0, 1, 1) || m.Ack(0, 1, 1) || m.Ack(0, 1, 0) {
		wrong(t, "P19.1: Ack of part 0")
	}
	pushes("an ack of part 0", push(0, 1, "a:4"), push(0, 2, "c:3"), push(1, 0, "b:1"), push(1, 1, "b:5"))
	if !m.Ack(1, 1, 2) || m.Done() {
		wrong(t, "P19.1: Ack of part 1")
	}
	pushes("the last ack of part 1", push(0, 1, "a:4"), push(0, 2, "c:3"))
	if !m.Ack(0, 1, 40) || !m.Done() {
		wrong(t, "P19.1: Ack beyond all of part 0")
	}
	pushes("acks of all")
	if !m.Ack(1, 2, 0) || m.Done() {
		wrong(t, "P19.1: Ack of a greater epoch")
	}
	pushes("an ack that goes back", push(1, 0, "b:1"), push(1, 1, "b:5"))
	odd := made(t, c, 1, 3)
	if got := odd.Chunk(0, 0); !slices.Equal(odd.Counts(), []int{2, 1}) || !slices.Equal(got, list("a:2", "a:4")) {
		wrong(t, "P19.1: of an odd attempt: Counts %v, Chunk(0, 0) %v", odd.Counts(), got)
	}
}

// silent holds all calls of a mapper of a split that has a reason against what
// they are to answer.
func silent(t *testing.T, what string, m *Mapper, why int) {
	t.Helper()
	if got := m.Reason(); got != why {
		wrong(t, "P19.1: %s: Reason %d, not %d", what, got, why)
	}
	if got := m.Counts(); len(got) != 0 {
		wrong(t, "P19.1: %s: Counts %v, not none", what, got)
	}
	if got := m.Push(); len(got) != 0 {
		wrong(t, "P19.1: %s: Push %v, not none", what, got)
	}
	for _, part := range slices.Concat(edges(), about(0), about(mostParts)) {
		for _, n := range []int{0, 1, -1, mostPairs, math.MaxInt} {
			if got := m.Chunk(part, n); len(got) != 0 {
				wrong(t, "P19.1: %s: Chunk(%d, %d): %s, not none", what, part, n, brief(got))
			}
			if m.Ack(part, 1, n) || m.Ack(part, n, 0) {
				wrong(t, "P19.1: %s: Ack for part %d: true", what, part)
			}
		}
	}
	if !m.Done() || m.Reason() != why {
		wrong(t, "P19.1: %s: Done %t, Reason %d", what, m.Done(), m.Reason())
	}
}

// TestReasons asks of splits with a reason, of splits without one beside them,
// and all of them again.
func TestReasons(t *testing.T) {
	splits := [][]api.Pair{list("a:1", "z:2", "b:3"), list("a:1", "b:2"), nil, list("z:1")}
	for why := api.Under; why <= api.BadKey; why++ {
		mapped, combined := config(splits...), config(splits...)
		mapped.Job.Map, combined.Job.Combine = turns(why), turns(why)
		for what, c := range map[string]api.Config{"map": mapped, "combine": combined} {
			if what == "map" && why == api.BadKey {
				continue
			}
			for attempt := 1; attempt <= mostTries; attempt++ {
				of := what + " by reason " + strconv.Itoa(why)
				silent(t, of, made(t, c, 0, attempt), why)
				silent(t, of, made(t, c, 3, attempt), why)
				for _, fine := range []int{1, 2} {
					w := watch(t, c, fine, attempt)
					w.ask(of)
					if w.m.Reason() != api.Fine || w.m.Reason() != api.Fine || len(w.m.Counts()) != 2 {
						wrong(t, "P19.1: %s: of a split without one: Reason %d, Counts %v", of, w.m.Reason(), w.m.Counts())
					}
				}
			}
		}
	}
}

// TestTooManyPairs has splits of as many pairs as may be, one less, one more,
// by one run and by several.
func TestTooManyPairs(t *testing.T) {
	for n, all := range map[int][][]api.Pair{
		mostPairs - 1: {list("a:39"), list("a:20", "b:19"), list("a:1", "b:37", "a:1")},
		mostPairs:     {list("a:40"), list("a:20", "b:20"), list("d:5", "c:5", "b:5", "a:5", "d:5", "c:5", "b:5", "a:5")},
		mostPairs + 1: {list("a:41"), list("a:20", "b:21"), list("b:1", "a:40")},
	} {
		for _, split := range all {
			c := config(nil, split)
			c.Job.Map = falls()
			for attempt := 1; attempt <= mostTries; attempt++ {
				if n > mostPairs {
					silent(t, "too many pairs", made(t, c, 1, attempt), api.Many)
					continue
				}
				w := watch(t, c, 1, attempt)
				w.ask(strconv.Itoa(n) + " pairs")
				if pairs := w.words.pairs(0) + w.words.pairs(1); pairs != n {
					wrong(t, "%d pairs, not %d", pairs, n)
				}
			}
		}
	}
}

// TestCounts has parts of no pairs, of one, and of about as many as one chunk,
// or two, have.
func TestCounts(t *testing.T) {
	for chunk := 1; chunk <= mostChunk; chunk++ {
		for attempt := 1; attempt <= mostTries; attempt++ {
			size := chunk + attempt%2
			for n, want := range map[int]int{0: 0, 1: 1, size - 1: min(1, size-1), size: 1, size + 1: 2, 2*size - 1: 2 - 1/size, 2 * size: 2, 2*size + 1: 3, mostPairs: (mostPairs + size - 1) / size} {
				for parts := 1; parts <= mostParts; parts++ {
					for p := range parts {
						sizes, counts := make([]int, parts), make([]int, parts)
						sizes[p], counts[p] = n, want
						c := sized(sizes...)
						c.Job.Chunk = chunk
						w := watch(t, c, 0, attempt)
						if got := w.m.Counts(); !slices.Equal(got, counts) {
							wrong(t, "P19.1: %v pairs in chunks of %d: Counts %v, not %v", sizes, size, got, counts)
						}
						w.ask("New")
					}
				}
			}
		}
	}
}

func TestCountsOfSeveralParts(t *testing.T) {
	for _, x := range []struct {
		sizes, even, odd []int // chunks of 2, of 3
	}{
		{[]int{0, 0, 0}, []int{0, 0, 0}, []int{0, 0, 0}},
		{[]int{1, 2, 3}, []int{1, 1, 2}, []int{1, 1, 1}},
		{[]int{4, 0, 7}, []int{2, 0, 4}, []int{2, 0, 3}},
		{[]int{0, 6, 0, 5}, []int{0, 3, 0, 3}, []int{0, 2, 0, 2}},
		{[]int{20, 20}, []int{10, 10}, []int{7, 7}},
		{[]int{13, 9, 9, 9}, []int{7, 5, 5, 5}, []int{5, 3, 3, 3}},
	} {
		c := sized(x.sizes...)
		c.Job.Chunk = 2
		for attempt, want := range map[int][]int{1: x.odd, 2: x.even, 3: x.odd} {
			w := watch(t, c, 0, attempt)
			if got := w.m.Counts(); !slices.Equal(got, want) {
				wrong(t, "P19.1: %v pairs, attempt %d: Counts %v, not %v", x.sizes, attempt, got, want)
			}
			w.ask("New")
		}
	}
}

func TestChunk(t *testing.T) {
	for attempt := 1; attempt <= mostTries; attempt++ {
		c := sized(7, 0, 12, 1)
		c.Job.Chunk = 3
		w := watch(t, c, 0, attempt)
		for _, part := range slices.Concat(edges(), about(0), about(3), about(mostParts)) {
			for _, seq := range slices.Concat(edges(), about(0), about(w.words.count(part)), about(mostPairs)) {
				w.chunk("New", part, seq)
			}
		}
		w.ack(0, 1, 2)
		w.ack(2, 5, 99)
		w.ask("acks") // chunks stay there, acked or not
	}
}

// askedEpochs and askedNexts are numbers near to what a window tells, and far
// from it.
func askedEpochs(epoch int) []int { return slices.Concat(edges(), about(0), about(epoch)) }

func askedNexts(next, count int) []int {
	return slices.Concat(about(0), about(next), about(count), []int{math.MinInt, math.MaxInt, 1 << 32, 1<<32 + 2})
}

func TestAckOfNoPart(t *testing.T) {
	w := watch(t, sized(5, 0, 9), 0, 2)
	for _, part := range slices.Concat(edges(), []int{-3, -2, -1, 3, 4, 5}) {
		for _, epoch := range askedEpochs(1) {
			for _, next := range askedNexts(0, 9) {
				if w.m.Ack(part, epoch, next) {
					wrong(t, "P19.1: Ack(%d, %d, %d): true", part, epoch, next)
				}
			}
		}
		w.ask("acks of no part")
	}
}

// TestAck brings a part to a state, and acks it once more; all other parts stay
// as they are, in states of their own.
func TestAck(t *testing.T) {
	c := sized(5, 0, 7)
	c.Job.Window = 3
	for part, count := range []int{5, 0, 7} {
		for _, epoch := range []int{0, 1, 3, math.MaxInt} {
			for _, next := range slices.Compact([]int{0, count / 2, count}) {
				if epoch == 0 && next > 0 {
					continue
				}
				for _, e := range askedEpochs(epoch) {
					for _, n := range askedNexts(next, count) {
						w := watch(t, c, 0, 2)
						if epoch > 0 {
							w.ack(part, epoch, next)
						}
						w.ack((part+1)%3, 2, 1)
						w.ack(part, e, n)
						w.askPush("Ack(" + strconv.Itoa(part) + ", " + strconv.Itoa(e) + ", " + strconv.Itoa(n) + ")")
						if t.Failed() {
							t.Fatalf("P19.1: part %d in epoch %d, %d wanted next", part, epoch, next)
						}
					}
				}
			}
		}
	}
}

// TestPush pushes behind acks of one part, of several, of all.
func TestPush(t *testing.T) {
	for window := 1; window <= mostWindow; window++ {
		c := sized(6, 0, 9, 2)
		c.Job.Window = window
		for attempt := 1; attempt <= mostTries; attempt++ {
			w := watch(t, c, 0, attempt)
			w.ask("New")
			for _, x := range []struct {
				what              string
				part, epoch, next int
			}{
				{"an ack of one part", 2, 1, 2}, {"an ack of another part", 0, 3, 1}, {"an ack of a part of none", 1, 1, 1},
				{"the last ack of a part", 3, 2, 2}, {"one more of a part", 2, 1, 4}, {"the same ack", 2, 1, 4}, {"a late ack", 0, 2, 5},
				{"an ack that goes back", 2, 2, 0}, {"all of a part", 0, 3, 6}, {"all of the last part", 2, 2, 40}, {"an ack that goes back behind the end", 0, 4, 0},
				{"an ack that goes back, but not to the beginning", 2, 9, 3}, {"all of a part again", 0, 4, 6}, {"all again", 2, 9, 9},
			} {
				w.ack(x.part, x.epoch, x.next)
				w.ask(x.what)
			}
			if !w.m.Done() || len(w.m.Push()) != 0 {
				wrong(t, "P19.1: behind acks of all: Done %t, Push %v", w.m.Done(), w.m.Push())
			}
		}
	}
}

func TestDoneOfParts(t *testing.T) {
	for _, sizes := range [][]int{{0}, {0, 0}, {0, 0, 0, 0}, {1}, {1, 0}, {0, 1}, {3, 0, 0, 3}, {0, 2, 2, 0}, {4, 4, 4, 4}} {
		w := watch(t, sized(sizes...), 0, 2)
		w.askPush("New")
		if want := slices.Max(sizes) == 0; w.m.Done() != want {
			wrong(t, "P19.1: %v pairs: behind New: Done %t", sizes, !want)
		}
		for part, n := range sizes {
			for next := 1; next <= n; next++ {
				w.ack(part, 1, next)
				w.askPush("an ack of one more")
			}
		}
		if !w.m.Done() {
			wrong(t, "P19.1: %v pairs: behind acks of all: not Done", sizes)
		}
		for part, n := range sizes {
			w.ack(part, 2, 0)
			w.askPush("an ack that goes back")
			if w.m.Done() != (n == 0) {
				wrong(t, "P19.1: %v pairs: part %d went back to 0: Done %t", sizes, part, n != 0)
			}
			w.ack(part, 2, n)
			w.askPush("all of it again")
		}
	}
}

// pushed answers what a mapper pushes for each part, chunk behind chunk; it
// acks what comes, till all is done.
func pushed(t *testing.T, m *Mapper) [][]api.Pair {
	t.Helper()
	all := make([][]api.Pair, len(m.Counts()))
	next := make([]int, len(all))
	for range 4*mostPairs + 1 {
		if m.Done() {
			break
		}
		for _, x := range m.Push() {
			if x.Part >= 0 && x.Part < len(all) && x.Seq == next[x.Part] {
				all[x.Part] = append(all[x.Part], x.Pairs...)
				next[x.Part]++
			}
		}
		for part, n := range next {
			m.Ack(part, 1, n)
		}
	}
	if !m.Done() || !slices.Equal(next, m.Counts()) {
		wrong(t, "P19.2: %v chunks were pushed, of %v", next, m.Counts())
	}
	return all
}

// TestAllAttemptsHaveTheSamePairs puts together what each attempt pushes.
func TestAllAttemptsHaveTheSamePairs(t *testing.T) {
	several := config(list("b:1", "a:2", "c:3", "a:4", "b:5", "", "a:7"), nil, list("d:1"))
	combined := several
	combined.Job.Combine = first()
	for _, c := range []api.Config{several, combined, sized(40), sized(1, 2, 3, 4), sized(13, 0, 19), sized(0, 40, 0)} {
		for chunk := 1; chunk <= mostChunk; chunk++ {
			c.Job.Chunk = chunk
			for split := range c.Job.Splits {
				want := wordsOf(c, split, 1).parts
				for attempt := 1; attempt <= mostTries; attempt++ {
					got := pushed(t, made(t, c, split, attempt))
					if !slices.EqualFunc(got, want, slices.Equal) {
						wrong(t, "P19.2: split %d, attempt %d pushes %v, not %v", split, attempt, got, want)
					}
				}
			}
		}
	}
}

// TestAttemptsHangOnSplitAndAttemptAlone changes what an attempt does not hang
// on: other splits, the reduce, the marks, how many workers and tries there
// are. It pushes the same.
func TestAttemptsHangOnSplitAndAttemptAlone(t *testing.T) {
	c := config(list("a:1", "b:2", "a:3"), list("d:4"))
	want := made(t, c, 0, 1).Push()
	for _, x := range []turned{
		{"nothing", func(c *api.Config) {}},
		{"another split", func(c *api.Config) { c.Job.Splits[1] = list("a:9", "a:8") }},
		{"one split alone", func(c *api.Config) { c.Job.Splits = c.Job.Splits[:1] }},
		{"more splits", func(c *api.Config) { c.Job.Splits = append(c.Job.Splits, nil, list("a:9")) }},
		{"the reduce", func(c *api.Config) { c.Job.Reduce = falls() }},
		{"marks", func(c *api.Config) { c.Job.Marks = []int{1, 2} }},
		{"workers", func(c *api.Config) { c.Workers = 4 }},
		{"tries", func(c *api.Config) { c.Tries = 1 }},
		{"the timeout", func(c *api.Config) { c.Timeout = 50 }},
	} {
		other := config(list("a:1", "b:2", "a:3"), list("d:4"))
		x.turn(&other)
		m, again := made(t, other, 0, 1), made(t, other, 0, 1)
		if m == again {
			wrong(t, "P19.1: New answers one mapper twice")
		}
		if got := m.Push(); !slices.EqualFunc(got, want, sameMessage) {
			wrong(t, "P19.2: with %s changed: Push %v, not %v", x.name, got, want)
		}
		m.Ack(0, 1, 9)
		if got := again.Push(); !slices.EqualFunc(got, want, sameMessage) {
			wrong(t, "P19.2: an ack of one mapper, and another pushes %v, not %v", got, want)
		}
	}
}

func TestNilMapper(t *testing.T) {
	var none *Mapper
	for _, n := range slices.Concat(edges(), about(0), about(mostPairs)) {
		if none.Ack(0, 1, n) || none.Ack(n, 1, 1) || none.Ack(0, n, 1) {
			wrong(t, "R3: Ack of nil: true")
		}
		if len(none.Chunk(n, 0)) != 0 || len(none.Chunk(0, n)) != 0 {
			wrong(t, "R3: Chunk of nil: some")
		}
		if none.Reason() != 0 || len(none.Counts()) != 0 || len(none.Push()) != 0 || none.Done() {
			wrong(t, "R3: of nil: Reason %d, Counts %v, Push %v, Done %t", none.Reason(), none.Counts(), none.Push(), none.Done())
		}
	}
}

// TestAMapperOfNobody asks a mapper that no call answered: it need tell nothing,
// but it must not panic.
func TestAMapperOfNobody(t *testing.T) {
	var m Mapper
	m.Reason()
	m.Counts()
	m.Push()
	m.Chunk(0, 0)
	m.Ack(0, 1, 1)
	m.Done()
}
