package mapper

import (
	"math/rand"
	"slices"
	"strconv"
	"testing"

	"staithe/api"
	"staithe/job"
	"staithe/model"
)

// byWords is the mapper once more, by the chapters' words alone: of the layers
// only the model is called, and of each window there are plain numbers.
type byWords struct {
	split, attempt int
	why            int
	size, window   int
	parts          [][]api.Pair
	epochs, nexts  []int
}

func wordsOf(c api.Config, split, attempt int) byWords {
	b := byWords{split: split, attempt: attempt, window: c.Job.Window, size: c.Job.Chunk}
	if attempt == 1 || attempt == 3 {
		b.size++
	}
	if _, b.why = model.Split(c.Job, split); b.why != api.Fine {
		return b
	}
	for p := range c.Job.Parts {
		run, _ := model.Run(c.Job, split, p)
		b.parts = append(b.parts, run)
	}
	b.epochs, b.nexts = make([]int, c.Job.Parts), make([]int, c.Job.Parts)
	return b
}

func (b *byWords) has(part int) bool { return part >= 0 && part < len(b.parts) }

// count counts chunks by taking pairs away.
func (b *byWords) count(part int) int {
	n := 0
	for left := b.pairs(part); left > 0; left -= b.size {
		n++
	}
	return n
}

func (b *byWords) pairs(part int) int {
	if !b.has(part) {
		return 0
	}
	return len(b.parts[part])
}

func (b *byWords) counts() []int {
	var all []int
	for p := range b.parts {
		all = append(all, b.count(p))
	}
	return all
}

func (b *byWords) chunk(part, seq int) []api.Pair {
	if seq < 0 || seq >= b.count(part) {
		return nil
	}
	var ps []api.Pair
	for i, x := range b.parts[part] {
		if i/b.size == seq {
			ps = append(ps, x)
		}
	}
	return ps
}

func (b *byWords) push() []api.Message {
	var all []api.Message
	for p := range b.parts {
		for seq := b.nexts[p]; seq < b.nexts[p]+b.window; seq++ {
			if seq < b.count(p) {
				all = append(all, api.Message{Kind: api.MsgPush, Split: b.split, Attempt: b.attempt, Part: p, Seq: seq, Pairs: b.chunk(p, seq)})
			}
		}
	}
	return all
}

func (b *byWords) ack(part, epoch, next int) bool {
	if !b.has(part) || epoch < 1 || epoch < b.epochs[part] {
		return false
	}
	next = max(0, min(next, b.count(part)))
	if epoch == b.epochs[part] && next <= b.nexts[part] {
		return false
	}
	b.epochs[part], b.nexts[part] = epoch, next
	return true
}

func (b *byWords) done() bool {
	for p := range b.parts {
		if b.nexts[p] != b.count(p) {
			return false
		}
	}
	return true
}

// drawnConfig answers a configuration that may be.
func drawnConfig(r *rand.Rand) api.Config {
	drawnOf := func(all ...[]api.Ins) []api.Ins { return all[r.Intn(len(all))] }
	c := config()
	c.Tries, c.Workers, c.Timeout = 1+r.Intn(mostTries), 1+r.Intn(4), 1+r.Intn(50)
	c.Job.Map = drawnOf(each(), falls(), falls(), turns(1+r.Intn(5)))
	c.Job.Combine = drawnOf(nil, nil, nil, nil, each(), first(), turns(1+r.Intn(6)))
	c.Job.Parts, c.Job.Chunk, c.Job.Window = 1+r.Intn(mostParts), 1+r.Intn(mostChunk), 1+r.Intn(mostWindow)
	if r.Intn(8) == 0 {
		c.Job.Fuel = 1 + r.Intn(100)
	}
	great := 1 + r.Intn(12)
	for range 1 + r.Intn(mostSplits) {
		var split []api.Pair
		for range r.Intn(mostRecords + 1) {
			split = append(split, api.Pair{Key: []string{"", "a", "b", "c", "d", "e", "\xff", "bb", "ab", "z"}[r.Intn(9+r.Intn(2))], Value: strconv.Itoa(r.Intn(great))})
		}
		c.Job.Splits = append(c.Job.Splits, split)
	}
	c.Job.Marks = slices.Clone([]int{1, 2, 3, 4}[:r.Intn(1+min(4, len(c.Job.Splits)))])
	return c
}

// drawnAck answers a part, and an epoch and a next that most times are near to
// those that there are.
func drawnAck(r *rand.Rand, b *byWords) (part, epoch, next int) {
	part = r.Intn(max(1, len(b.parts)))
	if b.has(part) {
		epoch, next = b.epochs[part], b.nexts[part]+r.Intn(6)-2
	}
	switch k := r.Intn(30); {
	case k == 0:
		// Not the greatest ones: nothing of a row would be heeded behind them.
		epoch = edges()[r.Intn(12)]
	case k < 3:
		epoch -= 1 + r.Intn(3)
	case k < 6:
		epoch += 1 + r.Intn(3)
	}
	switch r.Intn(20) {
	case 0:
		next = edges()[r.Intn(len(edges()))]
	case 1:
		part = edges()[r.Intn(len(edges()))]
	case 2:
		part = len(b.parts)
	case 3:
		part = -1
	case 4, 5:
		next = r.Intn(mostPairs + 2)
	}
	return part, epoch, next
}

// kindOf answers what is told apart of an ack that is drawn, behind which b is
// then.
func kindOf(b, then *byWords, part, epoch int) string {
	switch {
	case b.why != api.Fine:
		return "of a split with a reason"
	case !b.has(part):
		return "of no part"
	case epoch < max(1, b.epochs[part]):
		return "of an epoch below"
	case epoch > b.epochs[part] && then.nexts[part] < b.nexts[part] && b.done():
		return "that goes back behind the end"
	case epoch > b.epochs[part]:
		return "of a greater epoch"
	case then.nexts[part] == b.nexts[part]:
		return "of the same epoch, not more"
	case then.done():
		return "that is the last one"
	}
	return "of the same epoch, more"
}

// copied answers b in memory of its own, as far as an ack changes it.
func (b byWords) copied() byWords {
	b.epochs, b.nexts = slices.Clone(b.epochs), slices.Clone(b.nexts)
	return b
}

// TestAsTheWordsGo draws long rows of acks at attempts that are drawn: what is
// told behind each is what plain numbers tell.
func TestAsTheWordsGo(t *testing.T) {
	r := rand.New(rand.NewSource(19))
	kinds, reasons := map[string]int{}, map[int]int{}
	for row := range 1500 {
		c := drawnConfig(r)
		if !job.MayConfig(c) {
			t.Fatalf("P12.1: what was drawn may not be: %v", c)
		}
		split, attempt := r.Intn(len(c.Job.Splits)), 1+r.Intn(c.Tries)
		w := watch(t, c, split, attempt)
		reasons[w.words.why]++
		if r.Intn(4) > 0 {
			w.ask("New")
		}
		for call := range 60 {
			part, epoch, next := drawnAck(r, &w.words)
			before := w.words.copied()
			w.ack(part, epoch, next)
			kind := kindOf(&before, &w.words, part, epoch)
			kinds[kind]++
			w.askPush("Ack " + kind)
			if t.Failed() {
				t.Fatalf("P19.1: row %d, call %d: Ack(%d, %d, %d) of %+v, split %d, attempt %d of %v", row, call, part, epoch, next, before, split, attempt, c)
			}
		}
		w.ask("a long row")
	}
	for _, kind := range []string{
		"of a split with a reason", "of no part", "of an epoch below", "of a greater epoch", "of the same epoch, not more", "of the same epoch, more", "that is the last one", "that goes back behind the end",
	} {
		if kinds[kind] < 200 {
			wrong(t, "what was drawn is too much alike: %d acks %s", kinds[kind], kind)
		}
	}
	for why := range api.BadKey + 1 {
		if reasons[why] < 5 {
			wrong(t, "what was drawn is too much alike: %v by reasons", reasons)
		}
	}
}

// TestNoMoreThanTheWindow pushes whenever it may: of what was pushed for one
// part, and not acked in the present epoch, there is never more than Window.
func TestNoMoreThanTheWindow(t *testing.T) {
	r := rand.New(rand.NewSource(20))
	full := 0
	for row := range 300 {
		c := drawnConfig(r)
		split := r.Intn(len(c.Job.Splits))
		m, b := made(t, c, split, 1), wordsOf(c, split, 1)
		way := make([]map[int]bool, len(b.parts))
		for p := range way {
			way[p] = map[int]bool{}
		}
		for range 60 {
			for _, x := range m.Push() {
				if !b.has(x.Part) {
					t.Fatalf("P19.1: row %d: a message for part %d", row, x.Part)
				}
				way[x.Part][x.Seq] = true
			}
			for p, on := range way {
				if len(on) > c.Job.Window {
					wrong(t, "P19.1: row %d: %d chunks for part %d are on their way, not %d at most", row, len(on), p, c.Job.Window)
				}
				if len(on) == c.Job.Window {
					full++
				}
			}
			part, epoch, next := drawnAck(r, &b)
			greater := b.has(part) && epoch > b.epochs[part]
			m.Ack(part, epoch, next)
			if !b.ack(part, epoch, next) {
				continue
			}
			for seq := range way[part] {
				if greater || seq < b.nexts[part] {
					delete(way[part], seq)
				}
			}
		}
	}
	if full < 1000 {
		wrong(t, "what was drawn is too much alike: %d times as many as may be", full)
	}
}
