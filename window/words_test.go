package window

import (
	"math/rand"
	"slices"
	"testing"
)

// The window once more, by the chapter's words alone: plain numbers.

func (s state) acked(epoch, next int) (state, bool) {
	if next < 0 {
		next = 0
	}
	if next > s.count {
		next = s.count
	}
	switch {
	case epoch < 1 || epoch < s.epoch:
		return s, false
	case epoch > s.epoch:
		s.epoch, s.next = epoch, next
		return s, true
	case next > s.next:
		s.next = next
		return s, true
	}
	return s, false
}

// drawnAck answers an epoch and a next, most times near to those of s.
func drawnAck(r *rand.Rand, s state) (epoch, next int) {
	epoch, next = s.epoch, s.next+r.Intn(6)-2
	switch k := r.Intn(40); {
	case k == 0:
		epoch = s.epoch + 1 + r.Intn(1000)
	case k == 1:
		epoch = s.epoch - 1 - r.Intn(1000)
	case k == 2:
		// Not the greatest ones: nothing of a row would be heeded behind them.
		epoch = edges()[r.Intn(12)]
	case k < 5:
		epoch = s.epoch - 1
	case k < 9:
		epoch = s.epoch + 1
	}
	switch r.Intn(12) {
	case 0:
		next = edges()[r.Intn(len(edges()))]
	case 1:
		next = r.Intn(s.count + 1)
	case 2:
		next = 0
	}
	return epoch, next
}

// kindOf answers what is told apart of an ack that is drawn.
func kindOf(s state, epoch, next int, then state) string {
	switch {
	case epoch < 1:
		return "of no epoch"
	case epoch < s.epoch:
		return "of an epoch below"
	case epoch > s.epoch && then.next < s.next:
		return "of a greater epoch, less wanted"
	case epoch > s.epoch && then.next > s.next:
		return "of a greater epoch, more wanted"
	case epoch > s.epoch:
		return "of a greater epoch, the same wanted"
	case next < 0:
		return "of the same epoch, below 0"
	case next > s.count:
		return "of the same epoch, beyond all"
	case next < s.next:
		return "of the same epoch, less"
	case next > s.next:
		return "of the same epoch, more"
	}
	return "of the same epoch, the same"
}

func TestAsTheWordsGo(t *testing.T) {
	r := rand.New(rand.NewSource(17))
	count := map[string]int{}
	for row := range 400 {
		s := state{count: r.Intn(mostChunks + 1), size: 1 + r.Intn(mostSize)}
		w := made(t, s)
		var answers, said [][]int
		for call := range 300 {
			epoch, next := drawnAck(r, s)
			then, want := s.acked(epoch, next)
			kind := kindOf(s, epoch, next, then)
			ack(t, w, epoch, next, want)
			ask(t, "Ack "+kind, w, then)
			if t.Failed() {
				t.Fatalf("P17.1: row %d, call %d: Ack(%d, %d) of %+v", row, call, epoch, next, s)
			}
			s = then
			count[kind]++
			got := w.Open()
			if r.Intn(2) == 0 {
				spoil(got)
				continue
			}
			answers, said = append(answers, got), append(said, slices.Clone(got))
		}
		for i, got := range answers {
			if !slices.Equal(got, said[i]) {
				t.Fatalf("R4: row %d: an earlier answer is another one: %s, not %v", row, brief(got), said[i])
			}
		}
	}
	for _, kind := range []string{
		"of no epoch", "of an epoch below", "of the same epoch, below 0", "of the same epoch, beyond all", "of the same epoch, less", "of the same epoch, more", "of the same epoch, the same",
		"of a greater epoch, less wanted", "of a greater epoch, more wanted", "of a greater epoch, the same wanted",
	} {
		if count[kind] < 500 {
			wrong(t, "what was drawn is too much alike: %d acks %s", count[kind], kind)
		}
	}
}

// onTheirWay is what was pushed of s, and how many chunks were acked in the
// present epoch.
type onTheirWay struct {
	chunks map[int]bool
	acked  int
}

func (o *onTheirWay) push(t *testing.T, s state, open []int) {
	for _, i := range open {
		if i < o.acked || i >= s.count {
			wrong(t, "P17.2: chunk %d of %d is open, %d were acked", i, s.count, o.acked)
		}
		o.chunks[i] = true
	}
}

// heed takes in an ack that led from s to then.
func (o *onTheirWay) heed(s, then state) {
	if then.epoch > s.epoch {
		// Of the chunks of an earlier epoch none counts.
		clear(o.chunks)
	}
	o.acked = then.next
	for i := range o.acked {
		delete(o.chunks, i)
	}
}

// TestOnTheirWay pushes what is open whenever it may be: of what was pushed and
// not acked in the present epoch there is never more than the window's size.
func TestOnTheirWay(t *testing.T) {
	r := rand.New(rand.NewSource(18))
	full, again := 0, 0
	for row := range 400 {
		s := state{count: r.Intn(mostChunks + 1), size: 1 + r.Intn(mostSize)}
		w := made(t, s)
		way := onTheirWay{chunks: map[int]bool{}}
		for range 300 {
			if r.Intn(3) > 0 {
				way.push(t, s, w.Open())
			}
			if len(way.chunks) > s.size {
				wrong(t, "P17.2: %d chunks are on their way, not %d at most", len(way.chunks), s.size)
			}
			if t.Failed() {
				t.Fatalf("P17.2: row %d, %+v", row, s)
			}
			if len(way.chunks) == s.size {
				full++
			}
			epoch, next := drawnAck(r, s)
			then, _ := s.acked(epoch, next)
			w.Ack(epoch, next)
			way.heed(s, then)
			if then.epoch > s.epoch {
				again++
			}
			s = then
		}
	}
	if full < 10_000 || again < 1000 {
		wrong(t, "what was drawn is too much alike: %d times as many as may be, %d greater epochs", full, again)
	}
}
