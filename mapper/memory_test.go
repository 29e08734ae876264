package mapper

import (
	"reflect"
	"slices"
	"strconv"
	"sync"
	"testing"

	"staithe/api"
)

// withRoom answers xs in memory of its own, with x twice in the spare room
// behind it.
func withRoom[T any](xs []T, x T) []T {
	return append(slices.Clone(xs), x, x)[:len(xs)]
}

// roomy answers a configuration that may be, all of whose lists have spare
// room.
func roomy() api.Config {
	c := config(
		withRoom(list("b:3", "a:2", "c:1", "a:5"), api.Pair{Key: "spare"}),
		withRoom(list("d:4"), api.Pair{Key: "spare"}),
		withRoom(nil, api.Pair{Key: "spare"}),
	)
	j := &c.Job
	j.Splits = withRoom(j.Splits, list("spare:1"))
	j.Map = withRoom(falls(), api.Ins{Op: api.OpKey})
	j.Combine = withRoom(each(), api.Ins{Op: api.OpKey})
	j.Reduce = withRoom(first(), api.Ins{Op: api.OpKey})
	j.Marks = withRoom([]int{1, 3}, 9)
	return c
}

// shown answers c in memory of its own, with all spare room shown.
func shown(c api.Config) api.Config {
	j := &c.Job
	j.Splits = slices.Clone(j.Splits[:cap(j.Splits)])
	for i, split := range j.Splits {
		j.Splits[i] = slices.Clone(split[:cap(split)])
	}
	for _, p := range []*[]api.Ins{&j.Map, &j.Combine, &j.Reduce} {
		*p = slices.Clone((*p)[:cap(*p)])
	}
	j.Marks = slices.Clone(j.Marks[:cap(j.Marks)])
	return c
}

// fill writes x over all that a list has room for.
func fill[T any](xs []T, x T) {
	xs = xs[:cap(xs)]
	for i := range xs {
		xs[i] = x
	}
}

// spoil appends to xs, and writes over all that it has room for.
func spoil[T any](xs []T, x T) {
	fill(append(xs, x), x)
	fill(xs, x)
}

// spoilers write over a configuration's lists, each over one.
func spoilers() []turned {
	pair := api.Pair{Key: "spoiled", Value: "7"}
	return []turned{
		{"the records", func(c *api.Config) {
			for _, split := range c.Job.Splits {
				fill(split, pair)
			}
		}},
		{"the list of splits", func(c *api.Config) { fill(c.Job.Splits, []api.Pair{pair}) }},
		{"the list of splits, by none", func(c *api.Config) { fill(c.Job.Splits, nil) }},
		{"Map", func(c *api.Config) { fill(c.Job.Map, api.Ins{Op: api.OpDrop}) }},
		{"Map, by what may not be", func(c *api.Config) { fill(c.Job.Map, api.Ins{Op: 99}) }},
		{"Combine", func(c *api.Config) { fill(c.Job.Combine, api.Ins{Op: api.OpAdd}) }},
		{"Combine, by what may not be", func(c *api.Config) { fill(c.Job.Combine, api.Ins{Op: -9}) }},
		{"Reduce, by what may not be", func(c *api.Config) { fill(c.Job.Reduce, api.Ins{Op: 99}) }},
		{"Marks", func(c *api.Config) { fill(c.Job.Marks, 77) }},
	}
}

// TestTheConfigurationIsNotKept writes over what was handed in, ahead of the
// first time that the output is asked for, and behind it.
func TestTheConfigurationIsNotKept(t *testing.T) {
	all := append(spoilers(), turned{"all of it", func(c *api.Config) {
		for _, x := range spoilers() {
			x.turn(c)
		}
	}})
	for _, x := range all {
		for split := range 3 {
			for attempt := 1; attempt <= mostTries; attempt++ {
				early, late := roomy(), roomy()
				w, v := watch(t, early, split, attempt), watch(t, late, split, attempt)
				x.turn(&early)
				w.ask(x.name + " written over ahead of all calls")
				v.ask("New")
				x.turn(&late)
				v.ask(x.name + " written over behind all calls")
				v.ack(0, 1, 2)
				v.ask("an ack behind that")
			}
		}
	}
}

// TestTheConfigurationIsNotChanged holds what was handed in, with its spare
// room, against what it was.
func TestTheConfigurationIsNotChanged(t *testing.T) {
	c := roomy()
	before := shown(c)
	for split := range 3 {
		for attempt := 1; attempt <= mostTries; attempt++ {
			w := watch(t, c, split, attempt)
			w.ask("New")
			w.ack(0, 1, 1)
			w.ack(1, 2, 9)
			w.ask("acks")
			spoilAnswers(w.m)
			w.ask("answers written over")
		}
	}
	refused(t, "no such split", c, 3, 1)
	refused(t, "no such attempt", c, 0, 4)
	c.Workers = 0
	refused(t, "no workers", c, 0, 1)
	c.Workers = 2
	if !reflect.DeepEqual(shown(c), before) {
		wrong(t, "R4: behind the calls what was handed in is %v, not %v", shown(c), before)
	}
}

// spoilAnswers writes over all that a mapper answers, and what it has room for.
func spoilAnswers(m *Mapper) {
	pair := api.Pair{Key: "spoiled"}
	spoil(m.Counts(), -9)
	for part := range mostParts {
		for seq := range mostPairs {
			spoil(m.Chunk(part, seq), pair)
		}
	}
	all := m.Push()
	for _, x := range all {
		spoil(x.Pairs, pair)
	}
	spoil(all, api.Message{Kind: 99})
}

func TestAnswersCanBeWrittenOver(t *testing.T) {
	for _, sizes := range [][]int{{0, 0}, {1}, {2, 3}, {9, 0, 5}, {8, 16, 3, 4}, {40}} {
		for attempt := 1; attempt <= mostTries; attempt++ {
			c := sized(sizes...)
			c.Job.Chunk = 1 + len(sizes)
			w := watch(t, c, 0, attempt)
			for range 3 {
				spoilAnswers(w.m)
				w.ask("answers written over")
				for part := range sizes {
					w.ack(part, 1, w.words.nexts[part]+1)
				}
			}
		}
	}
}

// TestAnswersShareNothing takes each answer three times: one is written over,
// one is appended to, and the third stays what it was.
func TestAnswersShareNothing(t *testing.T) {
	pair := api.Pair{Key: "spoiled"}
	c := sized(7, 0, 12)
	c.Job.Chunk = 2
	w := watch(t, c, 0, 1)
	counts, more, kept := w.m.Counts(), append(w.m.Counts(), 5), w.m.Counts()
	spoil(counts, -9)
	if !slices.Equal(kept, w.words.counts()) || !slices.Equal(more, append(w.words.counts(), 5)) {
		wrong(t, "R4: Counts written over, and others are %v, %v", kept, more)
	}
	for part := range 3 {
		for seq := range w.words.count(part) {
			want := w.words.chunk(part, seq)
			one, two, kept := w.m.Chunk(part, seq), append(w.m.Chunk(part, seq), pair), w.m.Chunk(part, seq)
			spoil(one, api.Pair{Key: "other"})
			if !slices.Equal(kept, want) || !slices.Equal(two, append(want, pair)) {
				wrong(t, "R4: Chunk(%d, %d) written over, and others are %s, %s", part, seq, brief(kept), brief(two))
			}
		}
	}
	one, two, three := w.m.Push(), w.m.Push(), w.m.Push()
	chunk := w.m.Chunk(0, 0)
	for i := range one {
		spoil(one[i].Pairs, pair)
		two[i].Pairs = append(two[i].Pairs, pair)
	}
	spoil(one, api.Message{Kind: 99})
	if !slices.EqualFunc(three, w.words.push(), sameMessage) || !slices.Equal(chunk, w.words.chunk(0, 0)) {
		wrong(t, "R4: Push written over, and others are %v, %v", three, chunk)
	}
	for i, x := range w.words.push() {
		if got := two[i].Pairs; !slices.Equal(got, append(x.Pairs, pair)) {
			wrong(t, "R4: Push written over, and another, appended to, is %v", got)
		}
	}
	w.ask("answers written over")
}

// TestListsOfOneAnswerShareNothing appends to the pairs of each message of one
// Push: those of the others stay.
func TestListsOfOneAnswerShareNothing(t *testing.T) {
	w := watch(t, sized(9, 5, 3, 8), 0, 2)
	all, want := w.m.Push(), w.words.push()
	for i := range all {
		spoil(all[i].Pairs, api.Pair{Key: "spoiled"})
		for k := i + 1; k < len(all); k++ {
			if !sameMessage(all[k], want[k]) {
				wrong(t, "R4: message %d written over, and message %d is %v", i, k, all[k])
			}
		}
	}
}

// TestAnswersStand holds answers that were taken early against what they were,
// behind all that comes later.
func TestAnswersStand(t *testing.T) {
	w := watch(t, sized(9, 5), 0, 2)
	counts, chunk, push := w.m.Counts(), w.m.Chunk(0, 1), w.m.Push()
	was, wasChunk, wasPush := w.words.counts(), w.words.chunk(0, 1), w.words.push()
	for next := range 12 {
		w.ack(next%2, 1+next/4, next)
		w.ask("an ack")
		spoilAnswers(w.m)
		if !slices.Equal(counts, was) || !slices.Equal(chunk, wasChunk) || !slices.EqualFunc(push, wasPush, sameMessage) {
			wrong(t, "R4: behind %d acks earlier answers are %v, %s, %v", next+1, counts, brief(chunk), push)
		}
	}
}

// TestMappersOfOneSplitShareNothing writes over what one mapper answers: the
// other one of the same split and attempt pushes the same still.
func TestMappersOfOneSplitShareNothing(t *testing.T) {
	c := roomy()
	for split := range 3 {
		for attempt := 1; attempt <= mostTries; attempt++ {
			one, other := watch(t, c, split, attempt), watch(t, c, split, attempt)
			one.ask("New")
			spoilAnswers(one.m)
			other.ask("answers of the other one written over")
			one.ack(0, 1, 3)
			other.ask("acks of the other one")
			spoilAnswers(other.m)
			other.ack(0, 7, 0)
			one.ask("acks of the other one")
		}
	}
}

// TestMappersAtOneTime has several goroutines, each with mappers of its own,
// of one configuration.
func TestMappersAtOneTime(t *testing.T) {
	c := roomy()
	before := shown(c)
	var all sync.WaitGroup
	for g := range 8 {
		all.Add(1)
		go func() {
			defer all.Done()
			for i := range 60 {
				w := watch(t, c, (g+i)%3, 1+i%mostTries)
				if t.Failed() {
					return
				}
				w.ask("New, in goroutine " + strconv.Itoa(g))
				w.ack(i%2, 1, i%5)
				w.ack(g%2, 2, i%3)
				spoilAnswers(w.m)
				w.ask("acks, in goroutine " + strconv.Itoa(g))
			}
		}()
	}
	all.Wait()
	if !reflect.DeepEqual(shown(c), before) {
		wrong(t, "R4: behind the calls what was handed in is %v, not %v", shown(c), before)
	}
}
