package stage

import (
	"math/rand"
	"slices"
	"testing"

	"staithe/api"
)

// The stage once more, by the chapter's words alone: a plain list of all chunks
// that are kept, in the order in which they came.

type keptChunk struct {
	split, attempt int
	pairs          []api.Pair
}

type byWords []keptChunk

func (w byWords) next(split, attempt int) int {
	n := 0
	for _, k := range w {
		if k.split == split && k.attempt == attempt {
			n++
		}
	}
	return n
}

func (w byWords) put(split, attempt, seq int, ps []api.Pair) (byWords, int) {
	if split < 0 || split > mostSplits-1 || attempt < 1 || attempt > mostTries {
		return w, 0
	}
	if seq == w.next(split, attempt) && seq < mostChunks {
		w = append(w, keptChunk{split, attempt, slices.Clone(ps)})
	}
	return w, w.next(split, attempt)
}

func (w byWords) taken(split, attempt, count int) ([]api.Pair, bool) {
	if count < 0 || count != w.next(split, attempt) {
		return nil, false
	}
	var all []api.Pair
	for _, k := range w {
		if k.split == split && k.attempt == attempt {
			all = append(all, k.pairs...)
		}
	}
	return all, true
}

func (w byWords) dropped(split int) (byWords, int) {
	var stay, gone byWords
	for _, k := range w {
		if k.split == split {
			gone = append(gone, k)
		} else {
			stay = append(stay, k)
		}
	}
	return stay, gone.count()
}

func (w byWords) count() int {
	var told [][2]int
	for _, k := range w {
		if at := [2]int{k.split, k.attempt}; !slices.Contains(told, at) {
			told = append(told, at)
		}
	}
	return len(told)
}

// drawn answers one of all, or, seldom, any number.
func drawn(r *rand.Rand, all ...int) int {
	if r.Intn(60) == 0 {
		return edges()[r.Intn(len(edges()))]
	}
	return all[r.Intn(len(all))]
}

// drawnAt answers a split and an attempt; most are of those that there are,
// and of a busy row most are of few.
func drawnAt(r *rand.Rand, busy bool) (split, attempt int) {
	if busy && r.Intn(8) > 0 {
		return 1, 1 + r.Intn(2)
	}
	return drawn(r, -1, 0, 1, 2, 3, 4, 5, 6), drawn(r, 0, 1, 2, 3, 1, 2, 3, 4)
}

// drawnPut puts a chunk, mostly the one that is wanted; it answers what is
// told apart of such a put.
func drawnPut(w *watched, r *rand.Rand, busy bool, n int) string {
	split, attempt := drawnAt(r, busy)
	next := w.words.next(split, attempt)
	seq := drawn(r, next, next, next, next, next-1, next+1, 0)
	size := r.Intn(5)
	if r.Intn(50) == 0 {
		size = r.Intn(3 * mostChunks)
	}
	ps := roomy(chunk(n, size))
	before := len(w.words)
	w.put(split, attempt, seq, ps)
	spoil(ps)
	switch {
	case len(w.words) > before:
		return "Put, kept"
	case split < 0 || split >= mostSplits || attempt < 1 || attempt > mostTries:
		return "Put of none"
	case next == mostChunks:
		return "Put, as many as may be"
	case seq < next:
		return "Put of one before"
	}
	return "Put of one behind"
}

// drawnTake takes, mostly all that is kept.
func drawnTake(w *watched, r *rand.Rand, busy bool) ([]api.Pair, string) {
	split, attempt := drawnAt(r, busy)
	next := w.words.next(split, attempt)
	count := drawn(r, next, next, next, next-1, next+1, 0, -1)
	ps := w.take(split, attempt, count)
	switch {
	case count == next && next > 0:
		return ps, "Take"
	case count == next:
		return ps, "Take of nothing kept"
	case count < next:
		return ps, "Take of fewer"
	}
	return ps, "Take of more"
}

func TestAsTheWordsGo(t *testing.T) {
	r := rand.New(rand.NewSource(18))
	count := map[string]int{}
	for row := range 60 {
		w := watch(t)
		busy := row%2 == 0
		var answers, said [][]api.Pair
		for call := range 400 {
			var name string
			var got []api.Pair
			switch k := r.Intn(100); {
			case k < 70:
				name = drawnPut(w, r, busy, call)
			case k < 97 || busy && k < 99:
				got, name = drawnTake(w, r, busy)
			default:
				split, _ := drawnAt(r, busy)
				name = "Drop of none"
				if w.words.count() > 0 {
					name = "Drop"
				}
				w.drop(split)
			}
			count[name]++
			w.ask(name)
			if t.Failed() {
				t.Fatalf("P18.1: row %d, call %d: %s", row, call, name)
			}
			if r.Intn(2) == 0 {
				spoil(got)
				continue
			}
			answers, said = append(answers, got), append(said, slices.Clone(got))
		}
		for i, got := range answers {
			if !slices.Equal(got, said[i]) {
				t.Fatalf("R4: row %d: an earlier answer is another one: %s, not %s", row, brief(got), brief(said[i]))
			}
		}
	}
	for _, name := range []string{"Put, kept", "Put of none", "Put, as many as may be", "Put of one before", "Put of one behind", "Take", "Take of nothing kept", "Take of fewer", "Take of more", "Drop"} {
		if count[name] < 200 {
			wrong(t, "what was drawn is too much alike: %d of %s", count[name], name)
		}
	}
}
