package mapper

import (
	"math"
	"slices"
	"strconv"
	"strings"
	"testing"
	"time"

	"staithe/api"
)

// turned is a configuration that may be, but for one thing.
type turned struct {
	name string
	turn func(c *api.Config)
}

// faultsOfJob are the reasons for which a job of two splits may not be.
func faultsOfJob() []turned {
	bad := []api.Ins{{Op: 99}}
	long := make([]api.Ins, 41)
	all := []turned{
		{"no splits", func(c *api.Config) { c.Job.Splits = nil }},
		{"too many splits", func(c *api.Config) { c.Job.Splits = make([][]api.Pair, mostSplits+1) }},
		{"no instruction of Map", func(c *api.Config) { c.Job.Map = nil }},
		{"no instruction of Reduce", func(c *api.Config) { c.Job.Reduce = []api.Ins{} }},
		{"a bad Map", func(c *api.Config) { c.Job.Map = bad }},
		{"a bad Combine", func(c *api.Config) { c.Job.Combine = bad }},
		{"a bad Reduce", func(c *api.Config) { c.Job.Reduce = bad }},
		{"a long Map", func(c *api.Config) { c.Job.Map = long }},
		{"a long Combine", func(c *api.Config) { c.Job.Combine = long }},
		{"a long Reduce", func(c *api.Config) { c.Job.Reduce = long }},
		{"a jump to nowhere", func(c *api.Config) { c.Job.Map = []api.Ins{{Op: api.OpJump, A: 2}} }},
		{"a mark of 0", func(c *api.Config) { c.Job.Marks = []int{0} }},
		{"a mark too great", func(c *api.Config) { c.Job.Marks = []int{3} }},
		{"marks that fall", func(c *api.Config) { c.Job.Marks = []int{2, 1} }},
		{"marks alike", func(c *api.Config) { c.Job.Marks = []int{1, 1} }},
		{"too many marks", func(c *api.Config) {
			c.Job.Splits = append(c.Job.Splits, nil, nil, nil, nil)
			c.Job.Marks = []int{1, 2, 3, 4, 5}
		}},
	}
	for s := range 2 {
		of := " of split " + strconv.Itoa(s)
		all = append(all,
			turned{"too many records" + of, func(c *api.Config) { c.Job.Splits[s] = make([]api.Pair, mostRecords+1) }},
			turned{"a long key" + of, func(c *api.Config) { c.Job.Splits[s][1].Key = strings.Repeat("k", 17) }},
			turned{"a long value" + of, func(c *api.Config) { c.Job.Splits[s][1].Value = strings.Repeat("v", 65) }})
	}
	all = append(all, bounded("Parts", mostParts, func(c *api.Config) *int { return &c.Job.Parts })...)
	all = append(all, bounded("Chunk", mostChunk, func(c *api.Config) *int { return &c.Job.Chunk })...)
	all = append(all, bounded("Window", mostWindow, func(c *api.Config) *int { return &c.Job.Window })...)
	return append(all, bounded("Fuel", mostFuel, func(c *api.Config) *int { return &c.Job.Fuel })...)
}

// faultsOfConfig are the reasons for which a configuration of a job that may be
// may not be.
func faultsOfConfig() []turned {
	all := bounded("Workers", 4, func(c *api.Config) *int { return &c.Workers })
	all = append(all, bounded("Tries", mostTries, func(c *api.Config) *int { return &c.Tries })...)
	return append(all, bounded("Timeout", 50, func(c *api.Config) *int { return &c.Timeout })...)
}

// bounded sets a number that may be from 1 to most to others.
func bounded(name string, most int, at func(c *api.Config) *int) []turned {
	var all []turned
	for _, n := range []int{0, -1, most + 1, math.MinInt, math.MaxInt, 1 << 32, 1<<32 + 1, math.MinInt + 1} {
		all = append(all, turned{name + " of " + strconv.Itoa(n), func(c *api.Config) { *at(c) = n }})
	}
	return all
}

// twoSplits answers a configuration that may be, of two splits of two records.
func twoSplits() api.Config { return config(list("a:1", "b:2"), list("c:3", "d:4")) }

func TestAConfigurationThatMayNotBe(t *testing.T) {
	for _, x := range slices.Concat(faultsOfJob(), faultsOfConfig(), []turned{{"nothing at all", func(c *api.Config) { *c = api.Config{} }}}) {
		made(t, twoSplits(), 1, 1)
		c := twoSplits()
		x.turn(&c)
		for _, at := range [][2]int{{0, 1}, {1, 1}, {1, 3}, {0, 0}, {2, 1}, {-1, 4}, {math.MinInt, math.MaxInt}} {
			refused(t, x.name, c, at[0], at[1])
		}
	}
}

func TestSeveralFaults(t *testing.T) {
	for _, ofJob := range faultsOfJob() {
		for _, ofConfig := range faultsOfConfig() {
			c := twoSplits()
			ofJob.turn(&c)
			ofConfig.turn(&c)
			refused(t, ofJob.name+", "+ofConfig.name, c, 0, 1)
			refused(t, ofJob.name+", "+ofConfig.name, c, 9, -9)
		}
	}
}

func TestSplitsAndAttempts(t *testing.T) {
	for splits := 1; splits <= mostSplits; splits++ {
		for tries := 1; tries <= mostTries; tries++ {
			c := config(make([][]api.Pair, splits)...)
			c.Tries = tries
			for _, split := range slices.Concat(edges(), about(0), about(splits-1), about(mostSplits)) {
				for _, attempt := range slices.Concat(edges(), about(1), about(tries), about(mostTries)) {
					if split < 0 || split >= splits || attempt < 1 || attempt > tries {
						refused(t, strconv.Itoa(splits)+" splits, "+strconv.Itoa(tries)+" tries", c, split, attempt)
						continue
					}
					w := watch(t, c, split, attempt)
					w.ask("New")
				}
			}
		}
	}
}

// TestWhatMayBeAtItsBounds takes a configuration all of whose numbers are as
// small, or as great, as may be.
func TestWhatMayBeAtItsBounds(t *testing.T) {
	small := api.Config{Workers: 1, Tries: 1, Timeout: 1, Job: api.Job{
		Splits: [][]api.Pair{nil}, Parts: 1, Map: []api.Ins{{}}, Reduce: []api.Ins{{}}, Chunk: 1, Window: 1, Fuel: 1,
	}}
	watch(t, small, 0, 1).ask("New of what is small")
	great := config()
	key, value := strings.Repeat("k", 15), strings.Repeat("v", 63)
	for s := range mostSplits {
		var split []api.Pair
		for i := range mostRecords {
			split = append(split, api.Pair{Key: key + strconv.Itoa(i), Value: value + strconv.Itoa(s)})
		}
		great.Job.Splits = append(great.Job.Splits, split)
	}
	great.Workers, great.Timeout = 4, 50
	j := &great.Job
	j.Parts, j.Chunk, j.Window, j.Marks = mostParts, mostChunk, mostWindow, []int{3, 4, 5, 6}
	for len(j.Reduce) < 40 {
		j.Map, j.Combine, j.Reduce = append(j.Map, api.Ins{}), append(j.Combine, api.Ins{}), append(j.Reduce, api.Ins{})
	}
	j.Map, j.Combine = j.Map[:40], each()
	for s := range mostSplits {
		for attempt := 1; attempt <= mostTries; attempt++ {
			w := watch(t, great, s, attempt)
			w.ask("New of what is great")
			if w.words.why != api.Fine || w.m.Done() {
				wrong(t, "P19.1: of %d records: Reason %d, Done %t", mostRecords, w.m.Reason(), w.m.Done())
			}
		}
	}
}

// heavy answers a configuration of a split that takes long: each of its records,
// and each of the keys that come of them, has all the fuel but a little.
func heavy() api.Config {
	idle := func(n int) []api.Ins {
		return []api.Ins{
			{Op: api.OpInt, A: n}, {Op: api.OpStore, A: 1},
			{Op: api.OpLoad, A: 1}, {Op: api.OpInt, A: 1}, {Op: api.OpSub}, {Op: api.OpDup}, {Op: api.OpStore, A: 1}, {Op: api.OpIf, A: 2},
			{Op: api.OpKey}, {Op: api.OpNext}, {Op: api.OpDrop}, {Op: api.OpEmit},
		}
	}
	var split []api.Pair
	for i := range mostRecords {
		split = append(split, api.Pair{Key: "k" + strconv.Itoa(i), Value: "v"})
	}
	c := config(split, nil)
	c.Job.Map, c.Job.Combine, c.Job.Parts = idle(330), idle(330), mostParts
	return c
}

// inTime calls act so often, and stops where that takes far longer than so many
// small calls take.
func inTime(t *testing.T, what string, times int, act func()) {
	t.Helper()
	start := time.Now()
	for i := range times {
		act()
		if i%100 == 0 && time.Since(start) > 10*time.Second {
			t.Fatalf("P19.1: %s: %d of %d times took %v", what, i, times, time.Since(start))
		}
	}
}

// TestTheOutputIsMadeWhenItIsAskedFor makes so many mappers of a split that
// takes long that they cannot all have mapped it.
func TestTheOutputIsMadeWhenItIsAskedFor(t *testing.T) {
	c := heavy()
	inTime(t, "New", 100_000, func() {
		if m, e := New(c, 0, 1); m == nil || e != api.OK {
			t.Fatalf("P19.1: New: %d", e)
		}
	})
}

// TestTheOutputIsMadeOnce asks one mapper of such a split again and again.
func TestTheOutputIsMadeOnce(t *testing.T) {
	m := made(t, heavy(), 0, 1)
	calls := map[string]func(){
		"Reason": func() { m.Reason() }, "Counts": func() { m.Counts() }, "Chunk": func() { m.Chunk(1, 0) },
		"Push": func() { m.Push() }, "Ack": func() { m.Ack(1, 0, 1) }, "Done": func() { m.Done() },
	}
	for name, call := range calls {
		inTime(t, name, 100_000, call)
	}
	if m.Reason() != api.Fine || m.Done() || len(m.Push()) == 0 {
		wrong(t, "P19.1: Reason %d, Done %t, %v", m.Reason(), m.Done(), m.Push())
	}
}
