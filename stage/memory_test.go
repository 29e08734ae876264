package stage

import (
	"slices"
	"sync"
	"testing"

	"staithe/api"
)

// sizes are of no pairs, and of so many that a list has some spare room of its
// own, or none.
func sizes() []int { return []int{0, 1, 2, 3, 4, 5, 7, 8, 9, 16, 17} }

func TestWhatIsHandedInStays(t *testing.T) {
	for _, size := range sizes() {
		ps := roomy(chunk(1, size))
		before := shown(ps)
		s := New()
		for seq := range 4 {
			s.Put(2, 1, seq, ps)
			s.Put(2, 1, 0, ps)
			s.Put(2, 1+seq, 0, ps[:size/2])
			s.Put(seq, 3, 0, ps[size/2:])
			s.Put(-1, 1, 0, ps)
			got, _ := s.Take(2, 1, seq+1)
			spoil(got)
			got, _ = s.Take(seq, 3, 1)
			spoil(got)
		}
		s.Drop(2)
		s.Put(2, 1, 0, chunk(5, 20))
		if !slices.Equal(shown(ps), before) {
			wrong(t, "R4: %d pairs that were handed in were changed: %s, not %s", size, brief(shown(ps)), brief(before))
		}
	}
}

func TestWhatIsHandedInIsNotKept(t *testing.T) {
	for _, size := range sizes() {
		w := watch(t)
		var lists [][]api.Pair
		for seq := range 6 {
			ps := roomy(chunk(seq, size))
			lists = append(lists, ps)
			w.put(2, 1, seq, ps)
			w.put(4, 3, seq, ps)
		}
		for _, ps := range lists {
			spoil(ps)
			w.ask("a list that was put, written over")
		}
		ps := roomy(chunk(9, size))
		w.put(2, 1, 6, ps)
		fill(append(ps, chunk(8, 1)...), api.Pair{Key: "spoiled"})
		w.put(2, 1, 7, ps)
		fill(ps[size:], api.Pair{Key: "spare"})
		w.ask("the spare room of a list that was put, written over")
	}
}

// TestListsThatChunksShare puts lists that are the same memory, or lie behind
// one another in it: each chunk has its own.
func TestListsThatChunksShare(t *testing.T) {
	ps := chunk(1, 6)
	before := slices.Clone(ps)
	w := watch(t)
	for seq, list := range [][]api.Pair{ps[:2], ps[2:], ps[:0], ps[1:4], ps, ps[:2]} {
		w.put(0, 1, seq, list)
		w.put(0, 2, seq, list)
	}
	w.ask("Put of lists that share memory")
	spoil(w.take(0, 1, 6))
	w.ask("an answer, written over")
	if !slices.Equal(ps, before) {
		wrong(t, "R4: what was handed in was changed: %s", brief(ps))
	}
	spoil(ps)
	w.ask("the memory that the lists share, written over")
}

// TestWhatTakeAnswersIsItsOwn writes over, and appends to, an answer of Take,
// of as many chunks as may be told apart: neither the stage nor another answer
// is changed.
func TestWhatTakeAnswersIsItsOwn(t *testing.T) {
	for _, size := range sizes() {
		w := watch(t)
		for chunks := range 5 {
			w.ask("New, or Put")
			want, _ := w.words.taken(3, 2, chunks)
			first, second := w.take(3, 2, chunks), w.take(3, 2, chunks)
			more := append(w.take(3, 2, chunks), chunk(70, 2)...)
			spoil(first)
			w.ask("an answer of Take, written over")
			if !slices.Equal(second, want) || !slices.Equal(more, append(slices.Clone(want), chunk(70, 2)...)) {
				wrong(t, "R4: with an answer of Take, written over, others are changed: %s; %s", brief(second), brief(more))
			}
			one, two := append(second, chunk(71, 1)...), append(w.take(3, 2, chunks), chunk(72, 1)...)
			if !slices.Equal(one, append(slices.Clone(want), chunk(71, 1)...)) || !slices.Equal(two, append(slices.Clone(want), chunk(72, 1)...)) {
				wrong(t, "R4: two answers of Take, appended to: %s; %s", brief(one), brief(two))
			}
			w.put(3, 2, chunks, chunk(chunks, size))
		}
	}
}

func TestAnswersStandWhateverComes(t *testing.T) {
	w := watch(t)
	w.put(1, 1, 0, chunk(1, 3))
	single := w.take(1, 1, 1)
	w.put(1, 1, 1, chunk(2, 5))
	both := w.take(1, 1, 2)
	none := append(w.take(5, 3, 0), chunk(3, 1)...)
	was := [][]api.Pair{slices.Clone(single), slices.Clone(both), slices.Clone(none)}
	for _, act := range []struct {
		what string
		do   func()
	}{
		{"Put", func() { w.put(1, 1, 2, chunk(4, 4)); w.put(5, 3, 0, chunk(5, 2)) }},
		{"Take", func() { spoil(w.take(1, 1, 3)); spoil(w.take(5, 3, 1)) }},
		{"Put of what is not wanted", func() { w.put(1, 1, 0, chunk(6, 9)); w.put(1, 1, 9, chunk(6, 9)) }},
		{"Drop", func() { w.drop(1); w.drop(5) }},
		{"Put anew", func() { w.put(1, 1, 0, chunk(7, 3)); w.put(1, 1, 1, chunk(8, 5)); w.put(5, 3, 0, chunk(9, 1)) }},
		{"Put of its own answer", func() { w.put(1, 1, 2, single); w.put(1, 1, 3, both); w.put(5, 3, 1, none) }},
		{"Take of its own answer", func() { spoil(w.take(1, 1, 4)); spoil(w.take(5, 3, 2)) }},
	} {
		act.do()
		w.ask(act.what)
		for i, got := range [][]api.Pair{single, both, none} {
			if !slices.Equal(got, was[i]) {
				wrong(t, "R4: behind %s an earlier answer is another one: %s, not %s", act.what, brief(got), brief(was[i]))
			}
		}
	}
	spoil(single)
	spoil(both)
	spoil(none)
	w.ask("answers that were put, written over")
}

// TestStagesAtOneTime has several goroutines, each with a stage of its own, put
// the same pairs.
func TestStagesAtOneTime(t *testing.T) {
	ps := roomy(chunk(1, 8))
	before := shown(ps)
	var all sync.WaitGroup
	for g := range 8 {
		all.Add(1)
		go func() {
			defer all.Done()
			w := watch(t)
			for i := range 300 {
				split, attempt := i%mostSplits, 1+g%mostTries
				w.put(split, attempt, w.words.next(split, attempt), ps[:1+g])
				spoil(w.take(split, attempt, w.words.next(split, attempt)))
				w.ask("acts at one time")
				if i%50 == 49 {
					w.drop(split)
				}
				if t.Failed() {
					return
				}
			}
		}()
	}
	all.Wait()
	if !slices.Equal(shown(ps), before) {
		wrong(t, "R4: what was handed in was changed: %s", brief(shown(ps)))
	}
}
