package model

import (
	"reflect"
	"slices"
	"strconv"
	"strings"
	"sync"
	"testing"
	"time"

	"staithe/api"
)

// roomy answers a list with spare room behind it, filled with something to be
// watched.
func roomy[T any](all []T, spare ...T) []T {
	return append(slices.Clone(all), spare...)[:len(all)]
}

// roomyJob answers j, all of whose lists have spare room with things that may
// not be.
func roomyJob(j api.Job) api.Job {
	wrong := api.Pair{Key: strings.Repeat("w", 99), Value: strings.Repeat("w", 99)}
	var splits [][]api.Pair
	for _, split := range j.Splits {
		splits = append(splits, roomy(split, wrong, wrong, wrong))
	}
	j.Splits = roomy(splits, make([]api.Pair, 9), nil)
	for _, p := range []*[]api.Ins{&j.Map, &j.Combine, &j.Reduce} {
		*p = roomy(*p, api.Ins{Op: 99, S: "spare"}, api.Ins{Op: -1})
	}
	j.Marks = roomy([]int{1}, 77, 78)
	return j
}

// copied answers j in memory of its own, with all spare room shown.
func copied(j api.Job) api.Job {
	j.Splits = slices.Clone(j.Splits[:cap(j.Splits)])
	for i, split := range j.Splits {
		j.Splits[i] = slices.Clone(split[:cap(split)])
	}
	for _, p := range []*[]api.Ins{&j.Map, &j.Combine, &j.Reduce} {
		*p = slices.Clone((*p)[:cap(*p)])
	}
	j.Marks = slices.Clone(j.Marks[:cap(j.Marks)])
	return j
}

// spoil overwrites all that lists have room for.
func spoil(all ...[]api.Pair) {
	for _, ps := range all {
		ps = ps[:cap(ps)]
		for i := range ps {
			ps[i] = api.Pair{Key: "spoiled", Value: "spoiled"}
		}
	}
}

// answers are what all calls tell of a job.
type answers struct {
	Lists   [][]api.Pair
	Reasons []int
	Allowed []bool
}

// askAll asks all calls of j and set.
func askAll(j api.Job, set []int) answers {
	var a answers
	for s := -1; s <= len(j.Splits); s++ {
		told, why := Split(j, s)
		a.Lists, a.Reasons = append(a.Lists, told), append(a.Reasons, why)
		for p := -1; p <= j.Parts; p++ {
			told, why = Run(j, s, p)
			a.Lists, a.Reasons = append(a.Lists, told), append(a.Reasons, why)
		}
		for reason := range api.BadKey + 1 {
			a.Allowed = append(a.Allowed, Allows(j, reason, s, false), Allows(j, reason, s, true))
		}
	}
	for p := -1; p <= j.Parts; p++ {
		told, why := Part(j, p, set)
		a.Lists, a.Reasons = append(a.Lists, told), append(a.Reasons, why)
	}
	all, why, at := Whole(j)
	a.Lists, a.Reasons = append(a.Lists, all...), append(a.Reasons, why, at)
	return a
}

// deep answers a in memory of its own.
func (a answers) deep() answers {
	own := answers{Reasons: slices.Clone(a.Reasons), Allowed: slices.Clone(a.Allowed)}
	for _, ps := range a.Lists {
		own.Lists = append(own.Lists, slices.Clone(ps))
	}
	return own
}

// several are jobs of many kinds: with a Combine and without, of reasons of
// splits and of parts.
func several() []api.Job {
	combined, reduced, broken, one := three(), three(), three(), three()
	combined.Combine = joined()
	reduced.Reduce = falls(api.Big)
	reduced.Splits[2] = list("z:1")
	broken.Combine = other()
	one.Parts = 1
	return []api.Job{three(), combined, reduced, broken, one, reasoned(0, api.Fuel, 0, api.Many), good(nil, nil)}
}

func TestNothingHandedInIsChanged(t *testing.T) {
	for i, plain := range several() {
		j, set := roomyJob(plain), roomy([]int{2, 0, 99, 0, -1}, 1, 77)
		before, setBefore := copied(j), slices.Clone(set[:cap(set)])
		got := askAll(j, set)
		want := got.deep()
		spoil(got.Lists...)
		if !reflect.DeepEqual(copied(j), before) || !slices.Equal(set[:cap(set)], setBefore) {
			t.Errorf("R4: job %d: what was handed in is changed", i)
		}
		if again := askAll(j, set).deep(); !reflect.DeepEqual(again, want) {
			t.Errorf("R4: job %d: %v, then %v", i, want, again)
		}
		plain.Marks = nil
		if again := askAll(plain, []int{2, 0}).deep(); !reflect.DeepEqual(again, want) {
			t.Errorf("R5: job %d: %v with spare room, %v without", i, want, again)
		}
	}
}

func TestListsOfOneAnswerShareNothing(t *testing.T) {
	for i, j := range several() {
		for at := range j.Parts {
			want, _, _ := Whole(j)
			got, _, _ := Whole(j)
			if len(got) == 0 {
				continue
			}
			spoil(got[at])
			got[at] = append(got[at], list("more:1")...)
			for p := range got {
				if p != at && !slices.Equal(got[p], want[p]) {
					t.Errorf("R4: job %d: part %d was changed with part %d", i, p, at)
				}
			}
		}
	}
}

func TestAnswersShareNothingWithOneAnother(t *testing.T) {
	for i, j := range several() {
		one, another := askAll(j, []int{0, 1}), askAll(j, []int{0, 1})
		want := another.deep()
		spoil(one.Lists...)
		if !reflect.DeepEqual(another.deep(), want) {
			t.Errorf("R4: job %d: an answer was changed with another", i)
		}
		// One by one too: no list of one call shares with a list of another.
		for k := range another.Lists {
			spoil(another.Lists[k])
			want.Lists[k] = slices.Clone(another.Lists[k])
			if !reflect.DeepEqual(another.deep(), want) {
				t.Errorf("R4: job %d: list %d shares with another", i, k)
			}
		}
	}
}

// TestNothingIsKept changes what was handed in between two calls: the second
// one tells of it as it then is.
func TestNothingIsKept(t *testing.T) {
	j, set := three(), []int{0}
	askSplit(t, "as it was", j, 0, list("a:2", "b:1", "b:0"), api.Fine)
	askPart(t, "as it was", j, 0, set, list("a:2"), api.Fine)
	before, _, _ := Whole(j)
	kept := slices.Clone(before[0])
	j.Splits[0][1].Value, set[0] = "new", 1
	askSplit(t, "another record", j, 0, list("a:new", "b:1", "b:0"), api.Fine)
	askPart(t, "another set", j, 0, set, list("a:7", "a:6"), api.Fine)
	if !slices.Equal(before[0], kept) {
		t.Error("R4: an earlier answer changed with what was handed in")
	}
	j.Map[0] = api.Ins{Op: api.OpDrop}
	askSplit(t, "another Map", j, 0, nil, api.Under)
	askWhole(t, "another Map", j, nil, api.Under, 0)
	askAllows(t, "another Map", j, api.Under, 2, false, true)
	j.Map[0].Op = 99
	askSplit(t, "a Map that may not be", j, 0, nil, api.Type)
	askAllows(t, "a Map that may not be", j, api.Type, 2, false, false)
	j.Map[0] = api.Ins{Op: api.OpNext}
	askSplit(t, "as it was again", j, 1, list("a:7", "a:6"), api.Fine)
	askAllows(t, "as it was again", j, api.Under, 2, false, false)
}

func TestSeveralGoroutines(t *testing.T) {
	for i, plain := range several() {
		j, set := roomyJob(plain), []int{1, 0}
		want := askAll(j, set).deep()
		var done sync.WaitGroup
		for range 8 {
			done.Go(func() {
				for range 5 {
					got := askAll(j, set)
					if !reflect.DeepEqual(got.deep(), want) {
						t.Errorf("R5: job %d: several goroutines are told otherwise", i)
						return
					}
					spoil(got.Lists...)
				}
			})
		}
		done.Wait()
	}
}

// TestSizes asks for the most that may be asked: all ends in a time that the
// sizes explain.
func TestSizes(t *testing.T) {
	begun := time.Now()
	full := good()
	for s := range maxSplits {
		full.Splits = append(full.Splits, slices.Repeat(list("a:"+strconv.Itoa(s)), maxRecords))
	}
	full.Map, full.Parts = ends(api.Fuel, 0), maxParts
	askWhole(t, "a Map that never ends", full, nil, api.Fuel, 0)
	full.Map = falls(api.Type)
	for s := range full.Splits {
		full.Splits[s] = slices.Repeat(list("a:5"), maxRecords)
	}
	full.Reduce = count()
	askWhole(t, "as many pairs as may be", full, [][]api.Pair{nil, nil, list("a:240"), nil}, api.Fine, 0)
	set := make([]int, 1<<20)
	for i := range set {
		set[i] = i - 1<<19
	}
	askPart(t, "a long set", three(), 0, set, list("a:2", "a:7", "a:6", "a:8"), api.Fine)
	askPart(t, "a long set of one split", three(), 1, make([]int, 1<<20), list("b:1", "b:0"), api.Fine)
	long := three()
	long.Splits = make([][]api.Pair, 1<<20)
	askWhole(t, "far too many splits", long, nil, api.Type, 0)
	if took := time.Since(begun); took > 5*time.Second {
		t.Errorf("R1: the greatest sizes took %v", took)
	}
}
