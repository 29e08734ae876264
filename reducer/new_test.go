package reducer

import (
	"math"
	"slices"
	"strconv"
	"strings"
	"testing"

	"staithe/api"
)

// turned is a configuration that may be, but for one thing.
type turned struct {
	name string
	turn func(c *api.Config)
}

// faultsOfJob are the reasons for which a job of two splits may not be.
func faultsOfJob() []turned {
	bad := []api.Ins{{Op: 99}}
	long := make([]api.Ins, 41)
	all := []turned{
		{"no splits", func(c *api.Config) { c.Job.Splits = nil }},
		{"too many splits", func(c *api.Config) { c.Job.Splits = make([][]api.Pair, mostSplits+1) }},
		{"no instruction of Map", func(c *api.Config) { c.Job.Map = nil }},
		{"no instruction of Reduce", func(c *api.Config) { c.Job.Reduce = []api.Ins{} }},
		{"a bad Map", func(c *api.Config) { c.Job.Map = bad }},
		{"a bad Combine", func(c *api.Config) { c.Job.Combine = bad }},
		{"a bad Reduce", func(c *api.Config) { c.Job.Reduce = bad }},
		{"a long Map", func(c *api.Config) { c.Job.Map = long }},
		{"a long Combine", func(c *api.Config) { c.Job.Combine = long }},
		{"a long Reduce", func(c *api.Config) { c.Job.Reduce = long }},
		{"a jump to nowhere", func(c *api.Config) { c.Job.Reduce = []api.Ins{{Op: api.OpJump, A: 2}} }},
		{"a mark of 0", func(c *api.Config) { c.Job.Marks = []int{0} }},
		{"a mark too great", func(c *api.Config) { c.Job.Marks = []int{3} }},
		{"marks that fall", func(c *api.Config) { c.Job.Marks = []int{2, 1} }},
		{"marks alike", func(c *api.Config) { c.Job.Marks = []int{1, 1} }},
		{"too many marks", func(c *api.Config) {
			c.Job.Splits = append(c.Job.Splits, nil, nil, nil, nil)
			c.Job.Marks = []int{1, 2, 3, 4, 5}
		}},
	}
	for s := range 2 {
		of := " of split " + strconv.Itoa(s)
		all = append(all,
			turned{"too many records" + of, func(c *api.Config) { c.Job.Splits[s] = make([]api.Pair, mostRecords+1) }},
			turned{"a long key" + of, func(c *api.Config) { c.Job.Splits[s][1].Key = strings.Repeat("k", mostKey+1) }},
			turned{"a long value" + of, func(c *api.Config) { c.Job.Splits[s][1].Value = strings.Repeat("v", mostBytes+1) }})
	}
	all = append(all, bounded("Parts", mostParts, func(c *api.Config) *int { return &c.Job.Parts })...)
	all = append(all, bounded("Chunk", mostChunk-1, func(c *api.Config) *int { return &c.Job.Chunk })...)
	all = append(all, bounded("Window", 4, func(c *api.Config) *int { return &c.Job.Window })...)
	return append(all, bounded("Fuel", mostFuel, func(c *api.Config) *int { return &c.Job.Fuel })...)
}

// faultsOfConfig are the reasons for which a configuration of a job that may be
// may not be.
func faultsOfConfig() []turned {
	all := bounded("Workers", 4, func(c *api.Config) *int { return &c.Workers })
	all = append(all, bounded("Tries", mostTries, func(c *api.Config) *int { return &c.Tries })...)
	return append(all, bounded("Timeout", 50, func(c *api.Config) *int { return &c.Timeout })...)
}

// bounded sets a number that may be from 1 to most to others.
func bounded(name string, most int, at func(c *api.Config) *int) []turned {
	var all []turned
	for _, n := range []int{0, -1, most + 1, math.MinInt, math.MaxInt, 1 << 32, 1<<32 + 1, math.MinInt + 1} {
		all = append(all, turned{name + " of " + strconv.Itoa(n), func(c *api.Config) { *at(c) = n }})
	}
	return all
}

// twoSplits answers a configuration that may be, of two splits of two records.
func twoSplits() api.Config {
	c := config(2)
	c.Job.Splits = [][]api.Pair{list("a:1", "b:2"), list("c:3", "d:4")}
	return c
}

func TestAConfigurationThatMayNotBe(t *testing.T) {
	for _, x := range slices.Concat(faultsOfJob(), faultsOfConfig(), []turned{{"nothing at all", func(c *api.Config) { *c = api.Config{} }}}) {
		made(t, twoSplits(), 1, 1)
		c := twoSplits()
		x.turn(&c)
		for _, at := range [][2]int{{0, 1}, {1, 1}, {1, 9}, {0, 0}, {3, 1}, {-1, -4}, {math.MinInt, math.MaxInt}} {
			refused(t, x.name, c, at[0], at[1])
			refused(t, x.name, c, at[0], at[1], merged(at[0], 0, "a:1"), snapped(at[0], 0))
		}
	}
}

func TestSeveralFaults(t *testing.T) {
	for _, ofJob := range faultsOfJob() {
		for _, ofConfig := range faultsOfConfig() {
			c := twoSplits()
			ofJob.turn(&c)
			ofConfig.turn(&c)
			refused(t, ofJob.name+", "+ofConfig.name, c, 0, 1)
			refused(t, ofJob.name+", "+ofConfig.name, c, 9, -9)
		}
	}
}

func TestPartsAndEpochs(t *testing.T) {
	for parts := 1; parts <= mostParts; parts++ {
		c := config(2)
		c.Job.Parts = parts
		for _, part := range slices.Concat(edges(), about(0), about(parts-1), about(mostParts)) {
			for _, epoch := range slices.Concat(edges(), about(0), about(3)) {
				if part < 0 || part >= parts || epoch < 1 {
					refused(t, strconv.Itoa(parts)+" parts", c, part, epoch)
					refused(t, strconv.Itoa(parts)+" parts", c, part, epoch, merged(part, 0), merged(part, 1))
					continue
				}
				w := watch(t, c, part, epoch)
				w.ask("New")
				if h := w.r.Hello(); h.Part != part || h.Epoch != epoch {
					wrong(t, "P21.1: New of part %d, epoch %d: Hello tells %+v", part, epoch, h)
				}
			}
		}
	}
}

// TestWhatMayBeAtItsBounds takes a configuration all of whose numbers are as
// small, or as great, as may be.
func TestWhatMayBeAtItsBounds(t *testing.T) {
	small := api.Config{Workers: 1, Tries: 1, Timeout: 1, Job: api.Job{
		Splits: [][]api.Pair{nil}, Parts: 1, Map: []api.Ins{{}}, Reduce: []api.Ins{{}}, Chunk: 1, Window: 1, Fuel: 1,
	}}
	w := watch(t, small, 0, 1)
	w.ask("New of what is small")
	w.won(0, 1, 0)
	w.ask("Won of what is small")
	great := config(mostSplits, 3, 4, 5, 6)
	for s := range great.Job.Splits {
		for range mostRecords {
			great.Job.Splits[s] = append(great.Job.Splits[s], api.Pair{Key: strings.Repeat("k", mostKey), Value: strings.Repeat("v", mostBytes)})
		}
	}
	great.Workers, great.Timeout = 4, 50
	j := &great.Job
	j.Parts, j.Chunk, j.Window = mostParts, mostChunk-1, 4
	for len(j.Reduce) < 40 {
		j.Map, j.Combine, j.Reduce = append(j.Map, api.Ins{}), append(j.Combine, api.Ins{}), append(j.Reduce, api.Ins{})
	}
	j.Map, j.Combine = j.Map[:40], j.Combine[:32]
	w = watch(t, great, mostParts-1, math.MaxInt)
	w.ask("New of what is great")
	for split := mostSplits - 1; split >= 0; split-- {
		w.push(chunk(mostParts-1, split, mostTries, 0, api.Pair{Key: strings.Repeat("k", mostKey), Value: strings.Repeat("v", mostBytes)}))
		w.won(split, mostTries, 1)
		w.ask("a merge of what is great")
	}
	if ps, why, ok := w.r.Output(); len(ps) != mostSplits || why != api.Fine || !ok || len(w.r.Snaps()) != 4 {
		wrong(t, "P21.1: of what is great: Output %s, %d, %t, %d snapshots", brief(ps), why, ok, len(w.r.Snaps()))
	}
}

// begun is what a reducer of part 1 of three splits is to tell behind New.
type begun struct {
	name   string
	rs     []api.Record
	merged []int
	pairs  [][]api.Pair // by splits
	snaps  []api.Snap
}

// ofMerges are records that merge, and others beside them.
func ofMerges() []begun {
	return []begun{
		{name: "no records"},
		{name: "one merge", rs: []api.Record{merged(1, 1, "a:1", "b:2")}, merged: []int{1}, pairs: [][]api.Pair{nil, list("a:1", "b:2")}},
		{name: "a merge of no pairs", rs: []api.Record{merged(1, 0)}, merged: []int{0}},
		{name: "merges that fall", rs: []api.Record{merged(1, 2, "c:2"), merged(1, 0, "c:0")}, merged: []int{0, 2}, pairs: [][]api.Pair{list("c:0"), nil, list("c:2")}},
		{name: "all merges", rs: []api.Record{merged(1, 2, "c:2"), merged(1, 0, "c:0"), merged(1, 1)}, merged: []int{0, 1, 2}, pairs: [][]api.Pair{list("c:0"), nil, list("c:2")}},
		{name: "a split twice", rs: []api.Record{merged(1, 1, "a:1"), merged(1, 1, "a:9")}, merged: []int{1}, pairs: [][]api.Pair{nil, list("a:1")}},
		{name: "a split twice, of no pairs first", rs: []api.Record{merged(1, 1), merged(1, 1, "a:9")}, merged: []int{1}},
		{name: "a split twice, of no pairs then", rs: []api.Record{merged(1, 1, "a:9"), merged(1, 1), merged(1, 2)}, merged: []int{1, 2}, pairs: [][]api.Pair{nil, list("a:9")}},
		{name: "a split of another part first", rs: []api.Record{merged(0, 1, "a:9"), merged(1, 1, "a:1"), merged(2, 1, "a:8")}, merged: []int{1}, pairs: [][]api.Pair{nil, list("a:1")}},
		{name: "attempts that there are not", rs: []api.Record{
			{Kind: api.RecMerged, Part: 1, Split: 0, Pairs: list("a:0")}, {Kind: api.RecMerged, Part: 1, Split: 1, Attempt: -7, Pairs: list("a:1")}, {Kind: api.RecMerged, Part: 1, Split: 2, Attempt: math.MaxInt, Pairs: list("a:2")},
		}, merged: []int{0, 1, 2}, pairs: [][]api.Pair{list("a:0"), list("a:1"), list("a:2")}},
		{name: "fields that do not count", rs: []api.Record{
			{Kind: api.RecMerged, Part: 1, Split: 2, Attempt: 1, Reason: 5, Set: []int{0, 1}, Pairs: list("a:2")}, {Kind: api.RecSnap, Part: 1, Split: 1, Attempt: 2, Reason: 3, Set: []int{2}, Pairs: list("x:9")},
		}, merged: []int{2}, pairs: [][]api.Pair{nil, nil, list("a:2")}, snaps: []api.Snap{{Set: []int{2}, Pairs: list("a:2")}}},
		{name: "more pairs than a split may have", rs: []api.Record{merged(1, 0), {Kind: api.RecMerged, Part: 1, Split: 1, Pairs: keyed("k", mostPairs+9)}}, merged: []int{0, 1}, pairs: [][]api.Pair{nil, keyed("k", mostPairs+9)}},
		{name: "pairs that may not be", rs: []api.Record{merged(1, 0, "a key of 17 bytes:1")}, merged: []int{0}, pairs: [][]api.Pair{list("a key of 17 bytes:1")}},
	}
}

// ofSnaps are records of snapshots: among those of merges of splits 0 and 2.
func ofSnaps() []begun {
	zero, two := merged(1, 0, "a:0", "b:0"), merged(1, 2, "a:2")
	both := list("a:0", "a:2", "b:0")
	x := func(name string, set []int, pairs ...api.Pair) begun {
		return begun{
			name: name, rs: []api.Record{two, zero, snapped(1, set...)}, merged: []int{0, 2}, pairs: [][]api.Pair{zero.Pairs, nil, two.Pairs},
			snaps: []api.Snap{{Set: set, Pairs: pairs}},
		}
	}
	all := []begun{
		x("an empty set", nil), x("a set of a merged split", []int{0}, list("a:0", "b:0")...), x("a set of both", []int{0, 2}, both...),
		x("a set that falls", []int{2, 0}, both...), x("a set of a split twice", []int{2, 2}, list("a:2")...), x("a set of splits twice", []int{0, 2, 0, 2, 0}, both...),
		x("a set of one that is not merged", []int{1}), x("a set of all", []int{0, 1, 2}, both...), x("a set of numbers that are no split", []int{-1, 3, 6, 7, 64}),
		x("a set of splits and others", []int{9, 2, -9, 1}, list("a:2")...), x("a set of the edges", edges()), x("a set of splits and the edges", append(edges(), 2, 0), both...),
	}
	for _, order := range [][]api.Record{
		{snapped(1, 0, 2), zero, two}, {zero, snapped(1, 0, 2), two}, {two, snapped(1, 0, 2), zero, merged(1, 0, "a:9")}, {snapped(0, 0), zero, snapped(2, 2), two, snapped(1, 0, 2), snapped(-1, 0, 2)},
	} {
		y := x("merges ahead and behind", []int{0, 2}, both...)
		y.rs = order
		all = append(all, y)
	}
	several := x("several", nil)
	several.rs = []api.Record{snapped(1, 2), zero, snapped(1), snapped(1, 2, 0), two, snapped(1, 0), snapped(1, 2)}
	several.snaps = []api.Snap{{Set: []int{2}, Pairs: list("a:2")}, {}, {Set: []int{2, 0}, Pairs: both}, {Set: []int{0}, Pairs: list("a:0", "b:0")}, {Set: []int{2}, Pairs: list("a:2")}}
	return append(all, several)
}

func TestNewOfRecords(t *testing.T) {
	for _, x := range slices.Concat(ofMerges(), ofSnaps()) {
		w := watch(t, config(3, 1, 2, 3), 1, 4, x.rs...)
		if got := w.r.Merged(); !slices.Equal(got, x.merged) {
			wrong(t, "P21.1: New of %s: Merged %v, not %v", x.name, got, x.merged)
		}
		for split := range 3 {
			var want []api.Pair
			if split < len(x.pairs) {
				want = x.pairs[split]
			}
			if got := w.r.Pairs(split); !slices.Equal(got, want) {
				wrong(t, "P21.1: New of %s: Pairs(%d): %s, not %s", x.name, split, brief(got), brief(want))
			}
		}
		if got := w.r.Snaps(); !slices.EqualFunc(got, x.snaps, sameSnap) {
			wrong(t, "P21.1: New of %s: Snaps %s, not %s", x.name, told(got), told(x.snaps))
		}
		w.ask("New of " + x.name)
		w.anew(9).ask("New, once more, of " + x.name)
	}
}

// TestNewOfRecordsThatDoNotCount sets records of other parts, other kinds and
// splits that there are not between two that count.
func TestNewOfRecordsThatDoNotCount(t *testing.T) {
	full := api.Record{Kind: api.RecMerged, Part: 1, Split: 1, Attempt: 1, Set: []int{1, 2}, Pairs: list("x:9")}
	var stray []api.Record
	add := func(turn func(x *api.Record)) {
		x := full
		turn(&x)
		stray = append(stray, x)
	}
	for _, n := range slices.Concat(edges(), []int{-2, -1, 3, 4, 5, 6, 7, mostPairs}) {
		add(func(x *api.Record) { x.Split = n })
	}
	for _, n := range slices.Concat(edges(), []int{-2, -1, 0, 2, 3, 4, 5}) {
		add(func(x *api.Record) { x.Part = n })
		add(func(x *api.Record) { x.Part, x.Kind = n, api.RecSnap })
	}
	for _, n := range slices.Concat(edges(), []int{-5, -4, -1, 0, api.RecWon, api.RecCommit, api.RecOver, api.RecLife, 7, 8}) {
		add(func(x *api.Record) { x.Kind = n })
	}
	for _, x := range stray {
		w := watch(t, config(3), 1, 1, merged(1, 0, "a:0"), x, merged(1, 2, "a:2"))
		if got := w.r.Merged(); !slices.Equal(got, []int{0, 2}) || len(w.r.Snaps()) != 0 {
			wrong(t, "P21.1: New of %+v among others: Merged %v, Snaps %v", x, got, w.r.Snaps())
		}
		w.ask("New of a record that does not count")
	}
	w := watch(t, config(3), 1, 1, stray...)
	w.ask("New of records that do not count")
	if len(w.r.Merged())+len(w.r.Snaps()) != 0 {
		wrong(t, "P21.1: New of records that do not count: Merged %v, Snaps %v", w.r.Merged(), w.r.Snaps())
	}
}

// TestNewGoesOn goes on behind New: what is merged stays merged, and
// marks that were passed are not told again.
func TestNewGoesOn(t *testing.T) {
	w := watch(t, config(4, 1, 2, 3), 1, 2, merged(1, 3, "d:3"), merged(1, 1, "b:1"), snapped(1, 3))
	w.ask("New")
	if rs := w.won(3, 1, 0); len(rs) != 0 {
		wrong(t, "P21.2: Won of what records merged: %v", rs)
	}
	if ack, rs := w.push(chunk(1, 1, 1, 0, list("b:9")...)); ack.Next != mostPairs || len(rs) != 0 || w.r.Staged() != 0 {
		wrong(t, "P21.2: Push of what records merged: %+v, %v", ack, rs)
	}
	w.ask("calls for what is merged")
	rs := w.won(0, 2, 0)
	want := []api.Record{{Kind: api.RecMerged, Part: 1, Split: 0, Attempt: 2}, snapped(1, 0, 1, 3)}
	if !sameRecords(rs, want) {
		wrong(t, "P21.3: the third merge: %v, not %v", rs, want)
	}
	if s := w.r.Snaps(); len(s) != 2 || !slices.Equal(s[0].Set, []int{3}) || !slices.Equal(s[1].Pairs, list("b:1", "d:3")) {
		wrong(t, "P21.1: Snaps: %v", s)
	}
	if rs = w.won(2, 1, 0); len(rs) != 1 {
		wrong(t, "P21.3: the last merge: %v", rs)
	}
	w.ask("the last merge")
	w.anew(3).ask("New of all that was told")
}
