package reducer

import (
	"reflect"
	"slices"
	"strconv"
	"sync"
	"testing"

	"staithe/api"
)

// spoiled is a pair that is written over others.
var spoiled = api.Pair{Key: "spoiled", Value: "7"}

// withRoom answers xs in memory of its own, with x twice in the spare room
// behind it.
func withRoom[T any](xs []T, x T) []T {
	return append(slices.Clone(xs), x, x)[:len(xs)]
}

// fill writes x over all that a list has room for.
func fill[T any](xs []T, x T) {
	xs = xs[:cap(xs)]
	for i := range xs {
		xs[i] = x
	}
}

// spoil appends to xs, and writes over all that it has room for.
func spoil[T any](xs []T, x T) {
	fill(append(xs, x), x)
	fill(xs, x)
}

// shown answers xs in memory of its own, with all spare room shown.
func shown[T any](xs []T) []T { return slices.Clone(xs[:cap(xs)]) }

// roomy answers a configuration that may be, all of whose lists have spare room.
func roomy() api.Config {
	c := config(4)
	j := &c.Job
	j.Splits = withRoom([][]api.Pair{withRoom(list("a:1"), spoiled), nil, nil, nil}, list("spare:1"))
	j.Map, j.Combine = withRoom(each(), api.Ins{Op: api.OpKey}), withRoom(each(), api.Ins{Op: api.OpKey})
	j.Reduce = withRoom(each(), api.Ins{Op: api.OpKey})
	j.Marks = withRoom([]int{2, 3}, 4)
	return c
}

// shownConfig and shownRecords answer what they are given in memory of its own,
// with all spare room shown.
func shownConfig(c api.Config) api.Config {
	j := &c.Job
	j.Splits = shown(j.Splits)
	for i, split := range j.Splits {
		j.Splits[i] = shown(split)
	}
	j.Map, j.Combine, j.Reduce, j.Marks = shown(j.Map), shown(j.Combine), shown(j.Reduce), shown(j.Marks)
	return c
}

func shownRecords(rs []api.Record) []api.Record {
	rs = shown(rs)
	for i := range rs {
		rs[i].Set, rs[i].Pairs = shown(rs[i].Set), shown(rs[i].Pairs)
	}
	return rs
}

// roomyRecords are records of part 1, all of whose lists have spare room.
func roomyRecords() []api.Record {
	rs := []api.Record{
		merged(1, 2, "c:2", "a:2", "c:1"), snapped(1, 2), merged(1, 0, "a:0"), merged(1, 2, "x:9"), snapped(1, 2, 0), snapped(1), snapped(0, 1), merged(0, 1, "y:9"), snapped(1, 0, 0, 7),
	}
	for i := range rs {
		rs[i].Set, rs[i].Pairs = withRoom(rs[i].Set, 1), withRoom(rs[i].Pairs, spoiled)
	}
	return withRoom(rs, merged(1, 1, "spare:1"))
}

// goOn makes calls behind which all splits are merged, with two snapshots.
func goOn(w *watched) {
	w.ask("New")
	w.push(chunk(1, 1, 1, 0, list("b:1", "a:1")...))
	w.push(chunk(1, 3, 2, 0, list("d:3")...))
	w.won(1, 1, 2)
	w.ask("a chunk of two")
	w.push(chunk(1, 1, 1, 1, list("b:0")...))
	w.ask("a merge")
	w.won(3, 2, 1)
	w.ask("the last merge")
	w.anew(8).ask("New of all that was told")
}

// TestTheConfigurationIsNotKept writes over what was handed in.
func TestTheConfigurationIsNotKept(t *testing.T) {
	all := []turned{
		{"the records", func(c *api.Config) { fill(c.Job.Splits[0], spoiled) }},
		{"the list of splits", func(c *api.Config) { fill(c.Job.Splits, nil) }},
		{"Map", func(c *api.Config) { fill(c.Job.Map, api.Ins{Op: 99}) }},
		{"Combine", func(c *api.Config) { fill(c.Job.Combine, api.Ins{Op: -9}) }},
		{"Reduce", func(c *api.Config) { fill(c.Job.Reduce, api.Ins{Op: api.OpDrop}) }},
		{"Reduce, by what may not be", func(c *api.Config) { fill(c.Job.Reduce, api.Ins{Op: 99}) }},
		{"Marks", func(c *api.Config) { fill(c.Job.Marks, 1) }},
		{"Marks, by what may not be", func(c *api.Config) { fill(c.Job.Marks, -7) }},
	}
	for _, x := range all {
		for _, rs := range [][]api.Record{nil, roomyRecords()} {
			early, late := roomy(), roomy()
			w, v := watch(t, early, 1, 2, rs...), watch(t, late, 1, 2, rs...)
			x.turn(&early)
			w.ask(x.name + " written over ahead of all calls")
			goOn(w)
			v.ask("New")
			x.turn(&late)
			v.ask(x.name + " written over behind calls")
			goOn(v)
		}
	}
}

// TestRecordsAreNotKept writes over the records that were handed in.
func TestRecordsAreNotKept(t *testing.T) {
	for name, turn := range map[string]func(rs []api.Record){
		"sets": func(rs []api.Record) {
			for i := range rs {
				spoil(rs[i].Set, 3)
			}
		},
		"pairs": func(rs []api.Record) {
			for i := range rs {
				spoil(rs[i].Pairs, spoiled)
			}
		},
		"records": func(rs []api.Record) { spoil(rs, merged(1, 3, "z:1")) },
	} {
		early, late := roomyRecords(), roomyRecords()
		w, v := watch(t, roomy(), 1, 2, early...), watch(t, roomy(), 1, 2, late...)
		turn(early)
		w.ask(name + " written over ahead of all calls")
		goOn(w)
		v.ask("New")
		turn(late)
		v.ask(name + " written over behind calls")
		goOn(v)
	}
}

// TestMessagesAreNotKept writes over the lists of messages that were pushed.
func TestMessagesAreNotKept(t *testing.T) {
	for size := range mostChunk + 1 {
		w := watch(t, config(2), 0, 1)
		var lists [][]api.Pair
		for seq := range 3 {
			m := chunk(0, 1, 1, seq, withRoom(keyed(strconv.Itoa(seq), size), spoiled)...)
			m.Pairs, m.Set = withRoom(m.Pairs, spoiled), withRoom([]int{1, 2}, 3)
			before, set := shown(m.Pairs), shown(m.Set)
			w.push(m)
			w.push(chunk(0, 0, 1+seq, 0, m.Pairs[:size/2]...))
			if !slices.Equal(shown(m.Pairs), before) || !slices.Equal(shown(m.Set), set) {
				wrong(t, "R4: what was pushed is %s, not %s", brief(shown(m.Pairs)), brief(before))
			}
			lists = append(lists, m.Pairs)
			fill(m.Set, 0)
		}
		for _, ps := range lists[:2] {
			spoil(ps, spoiled)
		}
		rs := w.won(1, 1, min(3, 3*size))
		w.ask("Won, with what was pushed written over")
		if size > 0 && len(rs) != 1 {
			wrong(t, "P21.3: Won of three chunks of %d pairs: %v", size, rs)
		}
		spoil(lists[2], spoiled)
		w.ask("the rest of what was pushed written over")
		w.anew(2).ask("New of what was told")
	}
}

// TestWhatIsHandedInStays holds all that was handed in, with its spare room,
// against what it was.
func TestWhatIsHandedInStays(t *testing.T) {
	c, rs := roomy(), roomyRecords()
	before, records := shownConfig(c), shownRecords(rs)
	stay := func(what string) {
		t.Helper()
		if !reflect.DeepEqual(shownConfig(c), before) {
			wrong(t, "R4: behind %s the configuration is %v, not %v", what, shownConfig(c), before)
		}
		if !reflect.DeepEqual(shownRecords(rs), records) {
			wrong(t, "R4: behind %s the records are %s, not %s", what, told(shownRecords(rs)), told(records))
		}
	}
	refused(t, "no such part", c, 3, 1, rs...)
	refused(t, "no such epoch", c, 1, 0, rs...)
	stay("New that answers ErrArg")
	for part := range 3 {
		r, _ := New(c, part, 1, rs)
		w := &watched{t: t, r: r, words: wordsOf(c, part, 1, rs), journal: recordsOf(rs)}
		w.ask("New")
		stay("New")
		goOn(w)
		stay("calls")
		spoilAnswers(r)
		stay("answers written over")
		w.ask("answers written over")
	}
}

// spoilRecords, spoilMessage and spoilAnswers write over all lists of what was
// answered, and what these have room for.
func spoilRecords(rs []api.Record) {
	for i := range rs {
		spoil(rs[i].Set, -9)
		spoil(rs[i].Pairs, spoiled)
	}
	spoil(rs, api.Record{Kind: 99})
}

func spoilMessage(m api.Message) {
	spoil(m.Set, -9)
	spoil(m.Pairs, spoiled)
}

func spoilAnswers(r *Reducer) {
	spoil(r.Merged(), -9)
	for split := range mostSplits {
		spoil(r.Pairs(split), spoiled)
	}
	snaps := r.Snaps()
	for i := range snaps {
		spoil(snaps[i].Set, -9)
		spoil(snaps[i].Pairs, spoiled)
	}
	spoil(snaps, api.Snap{Reason: 99})
	ps, _, _ := r.Output()
	spoil(ps, spoiled)
	spoilMessage(r.Hello())
}

// TestAnswersCanBeWrittenOver writes over every answer of a row of calls.
func TestAnswersCanBeWrittenOver(t *testing.T) {
	for size := range mostChunk + 1 {
		w := watch(t, config(4, 1, 2, 3, 4), 1, 2)
		for split := range 4 {
			for seq := range 3 {
				ack, rs := w.push(chunk(1, split, 2, seq, keyed(strconv.Itoa(split), size)...))
				spoilMessage(ack)
				spoilRecords(rs)
				spoilAnswers(w.r)
				w.ask("answers of Push written over")
			}
			if split%2 == 0 {
				spoilRecords(w.won(split, 2, 3))
			} else {
				w.won(split, 2, 4)
				_, rs := w.push(chunk(1, split, 2, 3, list("last:1")...))
				spoilRecords(rs)
			}
			w.ask("records written over")
			spoilAnswers(w.r)
			w.ask("answers written over")
		}
		w.anew(3).ask("New of what was told")
	}
}

// lists are those of answers, in the order in which they were gathered.
type lists struct {
	ints  [][]int
	pairs [][]api.Pair
}

func (l *lists) records(rs []api.Record) {
	for _, x := range rs {
		l.ints, l.pairs = append(l.ints, x.Set), append(l.pairs, x.Pairs)
	}
}

func (l *lists) message(m api.Message) {
	l.ints, l.pairs = append(l.ints, m.Set), append(l.pairs, m.Pairs)
}

// all gathers what each call that changes nothing answers.
func (l *lists) all(r *Reducer) {
	l.ints = append(l.ints, r.Merged())
	for split := range mostSplits {
		l.pairs = append(l.pairs, r.Pairs(split))
	}
	for _, s := range r.Snaps() {
		l.ints, l.pairs = append(l.ints, s.Set), append(l.pairs, s.Pairs)
	}
	ps, _, _ := r.Output()
	l.pairs = append(l.pairs, ps)
	l.message(r.Hello())
}

// copied answers l in memory of its own.
func (l *lists) copied() *lists {
	var c lists
	for _, xs := range l.ints {
		c.ints = append(c.ints, slices.Clone(xs))
	}
	for _, ps := range l.pairs {
		c.pairs = append(c.pairs, slices.Clone(ps))
	}
	return &c
}

func (l *lists) same(other *lists) bool {
	return slices.EqualFunc(l.ints, other.ints, slices.Equal) && slices.EqualFunc(l.pairs, other.pairs, slices.Equal)
}

// gathered makes a row of calls, and gathers the lists of all answers.
func gathered(w *watched) *lists {
	var all lists
	all.all(w.r)
	for split := range 3 {
		ack, rs := w.push(chunk(1, split, 1, 0, list("b:1", "a:"+strconv.Itoa(split))...))
		all.message(ack)
		all.records(rs)
		all.records(w.won(split, 1, 1+split%2))
		ack, rs = w.push(chunk(1, split, 1, 1, list("c:7")...))
		all.message(ack)
		all.records(rs)
		all.all(w.r)
		all.all(w.r)
	}
	return &all
}

// TestAnswersShareNothing gathers all lists that a reducer answers, two of one
// answer too, writes over and appends to one of them, and looks whether the
// others, and what the reducer tells, stay as they are.
func TestAnswersShareNothing(t *testing.T) {
	c := config(3, 1, 2, 3)
	begin := func() (*watched, *lists) {
		w := watch(t, c, 1, 2, snapped(1, 0, 1), snapped(1, 0, 1))
		return w, gathered(w)
	}
	_, one := begin()
	for i := range len(one.ints) + len(one.pairs) {
		w, all := begin()
		was := all.copied()
		if i < len(all.ints) {
			spoil(all.ints[i], -9)
			all.ints[i] = was.ints[i]
		} else {
			k := i - len(all.ints)
			spoil(all.pairs[k], spoiled)
			all.pairs[k] = was.pairs[k]
		}
		if !all.same(was) {
			t.Fatalf("R4: list %d of %d, written over, changes another one: %v, not %v", i, len(all.ints)+len(all.pairs), all, was)
		}
		w.ask("list " + strconv.Itoa(i) + " written over")
	}
}

// TestAnswersStand holds the answers of each call against what they were, behind
// all calls that come later.
func TestAnswersStand(t *testing.T) {
	w := watch(t, roomy(), 1, 2, roomyRecords()...)
	var all lists
	all.all(w.r)
	was := all.copied()
	for i, act := range []func(){
		func() { goOn(w) },
		func() { spoilAnswers(w.r) },
		func() { w.push(chunk(1, 0, 1, 0, list("x:1")...)) },
		func() { w.won(0, 1, 0) },
	} {
		act()
		if !all.same(was) {
			wrong(t, "R4: behind act %d earlier answers are %v, not %v", i, all, was)
		}
		var more lists
		more.all(w.r)
		all.ints, all.pairs = append(all.ints, more.ints...), append(all.pairs, more.pairs...)
		was = all.copied()
	}
}

// TestPushOfItsOwnAnswers pushes what the reducer answered itself, and begins
// another one of its records: each has memory of its own.
func TestPushOfItsOwnAnswers(t *testing.T) {
	w := watch(t, config(3, 1, 2), 1, 2)
	w.push(chunk(1, 0, 1, 0, list("b:1", "a:2", "c:3")...))
	rs := w.won(0, 1, 1)
	ps, snaps := w.r.Pairs(0), w.r.Snaps()
	w.push(chunk(1, 1, 1, 0, ps...))
	w.push(chunk(1, 1, 1, 1, rs[0].Pairs...))
	w.push(chunk(1, 1, 1, 2, snaps[0].Pairs...))
	other := watch(t, config(3, 1, 2), 1, 2, rs...)
	spoilRecords(rs)
	spoil(ps, spoiled)
	spoil(snaps[0].Pairs, spoiled)
	other.ask("New of records that were written over")
	w.won(1, 1, 3)
	w.ask("a merge of its own answers")
	spoilAnswers(w.r)
	other.ask("answers of the other one written over")
}

// TestReducersOfOnePartShareNothing makes calls of one of two reducers of the
// same configuration, part, epoch and records.
func TestReducersOfOnePartShareNothing(t *testing.T) {
	c, rs := roomy(), roomyRecords()
	one, other := watch(t, c, 1, 2, rs...), watch(t, c, 1, 2, rs...)
	goOn(one)
	spoilAnswers(one.r)
	other.ask("calls of the other one")
	goOn(other)
	spoilAnswers(other.r)
	one.ask("calls of the other one")
}

// TestReducersAtOneTime has several goroutines, each with reducers of its own,
// of one configuration and one list of records.
func TestReducersAtOneTime(t *testing.T) {
	c, rs := roomy(), roomyRecords()
	before, records := shownConfig(c), shownRecords(rs)
	var all sync.WaitGroup
	for g := range 8 {
		all.Add(1)
		go func() {
			defer all.Done()
			for range 40 {
				r, e := New(c, g%3, 2, rs)
				if e != api.OK {
					wrong(t, "P21.1: New: %d", e)
					return
				}
				w := &watched{t: t, r: r, words: wordsOf(c, g%3, 2, rs), journal: recordsOf(rs)}
				goOn(w)
				spoilAnswers(w.r)
				w.ask("answers written over")
			}
		}()
	}
	all.Wait()
	if !reflect.DeepEqual(shownConfig(c), before) || !reflect.DeepEqual(shownRecords(rs), records) {
		wrong(t, "R4: behind the calls what was handed in is another one")
	}
}
