package job

import (
	"math"
	"math/rand"
	"reflect"
	"slices"
	"strconv"
	"strings"
	"sync"
	"testing"
	"time"

	"staithe/api"
)

// The bounds, written out apart from package api: a bound that is taken by a
// wrong name is seen.
const (
	splits, records, parts, chunk, window, fuel, marks = 6, 8, 4, 7, 4, 2000, 4
	workers, tries, timeout                            = 4, 3, 50
	key, bytes, instructions                           = 16, 64, 40
)

// outside are numbers that no field of a job or a configuration may be.
var outside = []int{
	math.MinInt, math.MinInt + 1, math.MinInt64 / 2, math.MinInt32 - 1, math.MinInt32, -65536, -256, -9, -2, -1, 0,
	2001, 65536, math.MaxInt32, math.MaxInt32 + 1, math.MaxUint32, math.MaxUint32 + 2, 1 << 40, math.MaxInt - 1, math.MaxInt,
}

// plain answers a program that may be.
func plain() []api.Ins {
	return []api.Ins{{Op: api.OpKey}, {Op: api.OpNext}, {Op: api.OpDrop}, {Op: api.OpEmit}}
}

// good answers a configuration that may be, none of whose bounds is reached.
func good() api.Config {
	return api.Config{
		Job: api.Job{
			Splits: [][]api.Pair{
				{{Key: "a", Value: "1"}, {Key: "b", Value: "2"}, {Key: "a", Value: "3"}},
				{{Key: "c", Value: "4"}, {Key: "", Value: ""}},
				nil,
				{{Key: "d", Value: "5"}},
			},
			Parts: 3, Map: plain(), Combine: plain(), Reduce: plain(),
			Chunk: 3, Window: 2, Fuel: 100, Marks: []int{2, 3},
		},
		Workers: 2, Tries: 2, Timeout: 20,
	}
}

// checkJob holds what is told of a job, by May and inside a configuration,
// against want.
func checkJob(t *testing.T, what string, want bool, turn func(j *api.Job)) {
	t.Helper()
	c := good()
	turn(&c.Job)
	if May(c.Job) != want {
		t.Errorf("P12.1: %s: May tells %t", what, !want)
	}
	checkConfigOf(t, what, want, c)
}

// checkConfig holds what is told of a configuration against want; its job is
// one that may be.
func checkConfig(t *testing.T, what string, want bool, turn func(c *api.Config)) {
	t.Helper()
	c := good()
	turn(&c)
	if !May(c.Job) {
		t.Errorf("P12.1: %s: May tells false of its job", what)
	}
	checkConfigOf(t, what, want, c)
}

func checkConfigOf(t *testing.T, what string, want bool, c api.Config) {
	t.Helper()
	if MayConfig(c) != want {
		t.Errorf("P12.1: %s: MayConfig tells %t", what, !want)
	}
	home, turn := Home(c, 0), Turn(c, 0)
	if want && (home != 1 || turn != 1) {
		t.Errorf("P12.1: %s: Home tells %d and Turn %d, not 1", what, home, turn)
	}
	if !want && (home != 0 || turn != 0) {
		t.Errorf("P12.1: %s, which may not be: Home tells %d and Turn %d, not 0", what, home, turn)
	}
}

func TestTheChaptersExample(t *testing.T) {
	c := good()
	c.Workers, c.Job.Parts = 3, 4
	if got := Home(c, 3); got != 1 {
		t.Errorf("P12.1: Home of three workers and part 3 tells %d, not 1", got)
	}
}

func TestOneThatMayBe(t *testing.T) {
	checkJob(t, "all as it may be", true, func(j *api.Job) {})
	checkConfig(t, "all as it may be", true, func(c *api.Config) {})
	if May(api.Job{}) {
		t.Error("P12.1: May tells true of a job of zero values")
	}
	if c := (api.Config{}); MayConfig(c) || Home(c, 0) != 0 || Turn(c, 0) != 0 {
		t.Error("P12.1: a configuration of zero values is taken")
	}
	if MayConfig(api.Config{Job: good().Job}) {
		t.Error("P12.1: MayConfig tells true of a job alone")
	}
	if c := good(); MayConfig(api.Config{Workers: c.Workers, Tries: c.Tries, Timeout: c.Timeout}) {
		t.Error("P12.1: MayConfig tells true of one without a job")
	}
}

// TestTheLeastAndTheGreatest takes all bounds at one time.
func TestTheLeastAndTheGreatest(t *testing.T) {
	one := []api.Ins{{Op: api.OpHalt}}
	least := api.Config{
		Job:     api.Job{Splits: make([][]api.Pair, 1), Parts: 1, Map: one, Reduce: one, Chunk: 1, Window: 1, Fuel: 1},
		Workers: 1, Tries: 1, Timeout: 1,
	}
	checkConfigOf(t, "the least one", true, least)
	all := make([]api.Ins, instructions)
	greatest := api.Config{
		Job: api.Job{
			Parts: parts, Map: all, Combine: all, Reduce: all,
			Chunk: chunk, Window: window, Fuel: fuel, Marks: []int{1, 2, 3, 6},
		},
		Workers: workers, Tries: tries, Timeout: timeout,
	}
	for range splits {
		ps := make([]api.Pair, records)
		for i := range ps {
			ps[i] = api.Pair{Key: strings.Repeat("k", key), Value: strings.Repeat("v", bytes)}
		}
		greatest.Job.Splits = append(greatest.Job.Splits, ps)
	}
	checkConfigOf(t, "the greatest one", true, greatest)
}

// TestNumbers takes each number by itself, at its bounds, beyond them, and far
// outside.
func TestNumbers(t *testing.T) {
	for _, x := range []struct {
		what  string
		most  int
		isJob bool
		field func(c *api.Config) *int
	}{
		{"Parts", parts, true, func(c *api.Config) *int { return &c.Job.Parts }},
		{"Chunk", chunk, true, func(c *api.Config) *int { return &c.Job.Chunk }},
		{"Window", window, true, func(c *api.Config) *int { return &c.Job.Window }},
		{"Fuel", fuel, true, func(c *api.Config) *int { return &c.Job.Fuel }},
		{"Workers", workers, false, func(c *api.Config) *int { return &c.Workers }},
		{"Tries", tries, false, func(c *api.Config) *int { return &c.Tries }},
		{"Timeout", timeout, false, func(c *api.Config) *int { return &c.Timeout }},
	} {
		try := func(n int, want bool) {
			t.Helper()
			what := x.what + " " + strconv.Itoa(n)
			if x.isJob {
				checkJob(t, what, want, func(j *api.Job) {
					c := api.Config{Job: *j}
					*x.field(&c) = n
					*j = c.Job
				})
			} else {
				checkConfig(t, what, want, func(c *api.Config) { *x.field(c) = n })
			}
		}
		for n := 1; n <= x.most; n++ {
			try(n, true)
		}
		try(x.most+1, false)
		for _, n := range outside {
			try(n, false)
		}
	}
}

func TestHowManySplits(t *testing.T) {
	for n := range 12 {
		what := strconv.Itoa(n) + " splits"
		checkJob(t, what, n >= 1 && n <= splits, func(j *api.Job) {
			j.Splits, j.Marks = make([][]api.Pair, n), nil
		})
	}
	checkJob(t, "no splits (nil)", false, func(j *api.Job) { j.Splits, j.Marks = nil, nil })
	checkJob(t, "six splits of pairs", true, func(j *api.Job) { j.Splits = append(j.Splits, j.Splits[0], j.Splits[1]) })
	checkJob(t, "seven splits of pairs", false, func(j *api.Job) {
		j.Splits = append(j.Splits, j.Splits[0], j.Splits[1], j.Splits[2])
	})
	checkJob(t, "a hundred splits", false, func(j *api.Job) { j.Splits = make([][]api.Pair, 100) })
}

// places are the first, those in the midst and the last of so many.
func places(n int) []int {
	return slices.Compact([]int{0, (n - 1) / 2, n / 2, n - 1})
}

func TestHowManyPairsOfASplit(t *testing.T) {
	for count := 1; count <= splits; count++ {
		for _, at := range places(count) {
			for n := range 12 {
				what := strconv.Itoa(n) + " pairs in split " + strconv.Itoa(at) + " of " + strconv.Itoa(count)
				checkJob(t, what, n <= records, func(j *api.Job) {
					j.Splits, j.Marks = make([][]api.Pair, count), nil
					j.Splits[at] = make([]api.Pair, n)
				})
			}
		}
	}
	checkJob(t, "as many pairs as may be in all splits", true, func(j *api.Job) {
		for i := range j.Splits {
			j.Splits[i] = make([]api.Pair, records)
		}
	})
}

func TestPairs(t *testing.T) {
	raw := "\x00\xff\xc3 \n"
	for _, x := range []struct {
		what string
		p    api.Pair
		want bool
	}{
		{"an empty pair", api.Pair{}, true},
		{"a key as long as may be", api.Pair{Key: strings.Repeat("k", key)}, true},
		{"a key that is too long", api.Pair{Key: strings.Repeat("k", key+1)}, false},
		{"a value as long as may be", api.Pair{Value: strings.Repeat("v", bytes)}, true},
		{"a value that is too long", api.Pair{Value: strings.Repeat("v", bytes+1)}, false},
		{"both as long as may be", api.Pair{Key: strings.Repeat("k", key), Value: strings.Repeat("v", bytes)}, true},
		{"both too long", api.Pair{Key: strings.Repeat("k", key+1), Value: strings.Repeat("v", bytes+1)}, false},
		{"any bytes", api.Pair{Key: raw, Value: raw}, true},
		{"a key of too many bytes, of few runes", api.Pair{Key: strings.Repeat("é", key/2) + "e"}, false},
		{"a value of too many bytes, of few runes", api.Pair{Value: strings.Repeat("é", bytes/2) + "e"}, false},
		{"a key far too long", api.Pair{Key: strings.Repeat("k", 70000)}, false},
		{"a value far too long", api.Pair{Value: strings.Repeat("v", 70000)}, false},
	} {
		for count := 1; count <= splits; count++ {
			for _, split := range places(count) {
				for at := range records {
					what := x.what + " at " + strconv.Itoa(at) + " of split " + strconv.Itoa(split) + " of " + strconv.Itoa(count)
					checkJob(t, what, x.want, func(j *api.Job) {
						j.Splits, j.Marks = make([][]api.Pair, count), nil
						j.Splits[split] = make([]api.Pair, records)
						j.Splits[split][at] = x.p
					})
				}
			}
		}
	}
}

func TestPrograms(t *testing.T) {
	long := make([]api.Ins, instructions+1)
	for _, x := range []struct {
		what string
		p    []api.Ins
		want bool
	}{
		{"one instruction", []api.Ins{{Op: api.OpHalt}}, true},
		{"as many instructions as may be", long[:instructions], true},
		{"one instruction too many", long, false},
		{"no such operation", []api.Ins{{Op: api.OpEmit + 1}}, false},
		{"an operation below all", []api.Ins{{Op: -1}}, false},
		{"the least operation of the type", []api.Ins{{Op: math.MinInt}}, false},
		{"the greatest operation of the type", []api.Ins{{Op: math.MaxInt}}, false},
		{"one that may not be behind one that may", []api.Ins{{Op: api.OpKey}, {Op: 99}}, false},
		{"one that may not be ahead of one that may", []api.Ins{{Op: 99}, {Op: api.OpKey}}, false},
		{"a jump behind the last one", []api.Ins{{Op: api.OpJump, A: 1}}, true},
		{"a jump beyond that", []api.Ins{{Op: api.OpJump, A: 2}}, false},
		{"no such register", []api.Ins{{Op: api.OpLoad, A: 8}}, false},
		{"bytes as long as may be", []api.Ins{{Op: api.OpBytes, S: strings.Repeat("s", bytes)}}, true},
		{"bytes that are too long", []api.Ins{{Op: api.OpBytes, S: strings.Repeat("s", bytes+1)}}, false},
		{"any number", []api.Ins{{Op: api.OpInt, A: math.MinInt}}, true},
		{"an A where none may be", []api.Ins{{Op: api.OpAdd, A: 1}}, false},
	} {
		checkJob(t, "Map: "+x.what, x.want, func(j *api.Job) { j.Map = x.p })
		checkJob(t, "Combine: "+x.what, x.want, func(j *api.Job) { j.Combine = x.p })
		checkJob(t, "Reduce: "+x.what, x.want, func(j *api.Job) { j.Reduce = x.p })
	}
	for _, none := range [][]api.Ins{nil, {}, make([]api.Ins, 0, 4)} {
		checkJob(t, "Map of no instruction", false, func(j *api.Job) { j.Map = none })
		checkJob(t, "Combine of no instruction", true, func(j *api.Job) { j.Combine = none })
		checkJob(t, "Reduce of no instruction", false, func(j *api.Job) { j.Reduce = none })
		checkJob(t, "Map and Combine of no instruction", false, func(j *api.Job) { j.Map, j.Combine = none, none })
	}
}

func TestMarks(t *testing.T) {
	for _, x := range []struct {
		what  string
		count int
		marks []int
		want  bool
	}{
		{"none (nil)", 4, nil, true},
		{"none (empty)", 4, []int{}, true},
		{"none of one split", 1, nil, true},
		{"each one", 4, []int{1, 2, 3, 4}, true},
		{"as many as there may be", 6, []int{1, 3, 4, 6}, true},
		{"as many as there may be, the last ones", 6, []int{3, 4, 5, 6}, true},
		{"one more than there may be", 6, []int{1, 2, 3, 4, 5}, false},
		{"one more than there may be, zeros", 6, make([]int, 5), false},
		{"one more than there are splits", 3, []int{1, 2, 3, 4}, false},
		{"each one of six", 6, []int{1, 2, 3, 4, 5, 6}, false},
		{"0", 4, []int{0}, false},
		{"0 ahead of others", 4, []int{0, 1, 2}, false},
		{"0 in the midst", 4, []int{1, 0, 2}, false},
		{"0 last", 4, []int{1, 2, 0}, false},
		{"-1", 4, []int{-1}, false},
		{"-1 ahead of others", 4, []int{-1, 1}, false},
		{"1 of one split", 1, []int{1}, true},
		{"2 of one split", 1, []int{2}, false},
		{"all splits", 4, []int{4}, true},
		{"one more than all splits", 4, []int{5}, false},
		{"one more than all splits, behind others", 4, []int{1, 2, 5}, false},
		{"all of six", 6, []int{6}, true},
		{"seven of six", 6, []int{7}, false},
		{"two alike", 4, []int{2, 2}, false},
		{"two alike, the first ones", 4, []int{1, 1, 2}, false},
		{"two alike, the last ones", 4, []int{1, 4, 4}, false},
		{"two alike, not side by side", 4, []int{1, 2, 1}, false},
		{"falling ones", 4, []int{2, 1}, false},
		{"falling ones, the last", 4, []int{1, 2, 4, 3}, false},
		{"falling ones, the first", 4, []int{2, 1, 3, 4}, false},
		{"falling in the midst", 4, []int{1, 3, 2, 4}, false},
		{"all falling", 4, []int{4, 3, 2, 1}, false},
		{"the greatest number and the least", 4, []int{math.MaxInt, math.MinInt}, false},
	} {
		checkJob(t, "Marks: "+x.what, x.want, func(j *api.Job) {
			j.Splits, j.Marks = make([][]api.Pair, x.count), x.marks
		})
	}
	for _, n := range outside {
		for at := range marks {
			checkJob(t, "Marks: "+strconv.Itoa(n)+" at "+strconv.Itoa(at), false, func(j *api.Job) {
				j.Marks = []int{1, 2, 3, 4}
				j.Marks[at] = n
			})
		}
	}
}

// drawnMarks answers up to so many numbers from -1 to splits and 1.
func drawnMarks(r *rand.Rand, count, most int) []int {
	ms := make([]int, r.Intn(most+1))
	for i := range ms {
		ms[i] = r.Intn(count+3) - 1
	}
	if r.Intn(3) > 0 {
		slices.Sort(ms)
	}
	return ms
}

// TestMarksAsASet holds marks against a count of each: they may be just if they
// are what a set tells in order.
func TestMarksAsASet(t *testing.T) {
	r := rand.New(rand.NewSource(121))
	for range 4000 {
		count := 1 + r.Intn(splits)
		ms := drawnMarks(r, count, marks+1)
		var set [16]bool
		want := len(ms) <= marks
		for _, m := range ms {
			set[m+1] = true
			want = want && m >= 1 && m <= count
		}
		var told []int
		for m, in := range set {
			if in {
				told = append(told, m-1)
			}
		}
		want = want && slices.Equal(told, ms)
		checkJob(t, "Marks "+string(appendInts(nil, ms))+"of "+strconv.Itoa(count), want, func(j *api.Job) {
			j.Splits, j.Marks = make([][]api.Pair, count), ms
		})
	}
}

func appendInts(b []byte, ns []int) []byte {
	for _, n := range ns {
		b = append(strconv.AppendInt(b, int64(n), 10), ' ')
	}
	return b
}

// TestSeveralFaults takes faults two by two: none makes up for another.
func TestSeveralFaults(t *testing.T) {
	bad := []api.Ins{{Op: 99}}
	faults := []func(c *api.Config){
		func(c *api.Config) {},
		func(c *api.Config) { c.Job.Splits = make([][]api.Pair, 7) },
		func(c *api.Config) { c.Job.Splits[0] = make([]api.Pair, 9) },
		func(c *api.Config) { c.Job.Parts = 0 },
		func(c *api.Config) { c.Job.Map = bad },
		func(c *api.Config) { c.Job.Combine = bad },
		func(c *api.Config) { c.Job.Reduce = nil },
		func(c *api.Config) { c.Job.Chunk = 8 },
		func(c *api.Config) { c.Job.Window = 0 },
		func(c *api.Config) { c.Job.Fuel = 2001 },
		func(c *api.Config) { c.Job.Marks = []int{1, 1} },
		func(c *api.Config) { c.Workers = 0 },
		func(c *api.Config) { c.Tries = 4 },
		func(c *api.Config) { c.Timeout = 0 },
	}
	for i, one := range faults {
		for k, other := range faults {
			c := good()
			one(&c)
			other(&c)
			ofConfig := i >= 11 || k >= 11
			what := "faults " + strconv.Itoa(i) + " and " + strconv.Itoa(k)
			checkConfigOf(t, what, i == 0 && k == 0, c)
			if !ofConfig && May(c.Job) != (i == 0 && k == 0) {
				t.Errorf("P12.1: %s: May tells %t", what, May(c.Job))
			}
		}
	}
}

func TestHome(t *testing.T) {
	homes := [][]int{{1, 1, 1, 1}, {1, 2, 1, 2}, {1, 2, 3, 1}, {1, 2, 3, 4}}
	for w, of := range homes {
		for count := 1; count <= parts; count++ {
			c := good()
			c.Workers, c.Job.Parts = w+1, count
			for part := -9; part < 20; part++ {
				want := 0
				if part >= 0 && part < count {
					want = of[part]
				}
				if got := Home(c, part); got != want {
					t.Errorf("P12.1: Home of %d workers, %d parts and part %d tells %d, not %d", w+1, count, part, got, want)
				}
			}
			for _, part := range outside {
				if got := Home(c, part); part != 0 && got != 0 {
					t.Errorf("P12.1: Home of %d workers and part %d tells %d, not 0", w+1, part, got)
				}
			}
		}
	}
}

func TestTurn(t *testing.T) {
	for w := 1; w <= workers; w++ {
		c := good()
		c.Workers = w
		want := 0
		for n := range 200 {
			if want++; want > w {
				want = 1
			}
			if got := Turn(c, n); got != want {
				t.Errorf("P12.1: Turn of %d workers and %d tells %d, not %d", w, n, got, want)
			}
		}
	}
	for _, x := range []struct {
		n    int
		want [4]int
	}{
		{0, [4]int{1, 1, 1, 1}},
		{1, [4]int{1, 2, 2, 2}},
		{2, [4]int{1, 1, 3, 3}},
		{3, [4]int{1, 2, 1, 4}},
		{4, [4]int{1, 1, 2, 1}},
		// 2^64 is 1 more than what 3 goes into, and what 2 and 4 go into.
		{-1, [4]int{1, 2, 1, 4}},
		{-2, [4]int{1, 1, 3, 3}},
		{-3, [4]int{1, 2, 2, 2}},
		{-4, [4]int{1, 1, 1, 1}},
		{math.MinInt, [4]int{1, 1, 3, 1}},
		{math.MinInt + 1, [4]int{1, 2, 1, 2}},
		{math.MaxInt, [4]int{1, 2, 2, 4}},
		{math.MaxInt - 1, [4]int{1, 1, 1, 3}},
		{1000000, [4]int{1, 1, 2, 1}},
		{math.MaxInt32, [4]int{1, 2, 2, 4}},
		{math.MaxUint32, [4]int{1, 2, 1, 4}},
	} {
		for w, want := range x.want {
			c := good()
			c.Workers = w + 1
			if got := Turn(c, x.n); got != want {
				t.Errorf("P12.1: Turn of %d workers and %d tells %d, not %d", w+1, x.n, got, want)
			}
		}
	}
}

// copied answers c in memory of its own, with all spare room shown.
func copied(c api.Config) api.Config {
	j := &c.Job
	j.Splits = slices.Clone(j.Splits[:cap(j.Splits)])
	for i, split := range j.Splits {
		j.Splits[i] = slices.Clone(split[:cap(split)])
	}
	for _, p := range []*[]api.Ins{&j.Map, &j.Combine, &j.Reduce} {
		*p = slices.Clone((*p)[:cap(*p)])
	}
	j.Marks = slices.Clone(j.Marks[:cap(j.Marks)])
	return c
}

// roomy answers a configuration that may be, all of whose lists have spare
// room with things that may not be.
func roomy() api.Config {
	c := good()
	j := &c.Job
	wrong := strings.Repeat("w", 99)
	for i, split := range j.Splits {
		j.Splits[i] = append(slices.Clone(split), api.Pair{Key: wrong}, api.Pair{Value: wrong})[:len(split)]
	}
	j.Splits = append(slices.Clone(j.Splits), make([]api.Pair, 9), nil, make([]api.Pair, 9))[:len(j.Splits)]
	for _, p := range []*[]api.Ins{&j.Map, &j.Combine, &j.Reduce} {
		*p = append(slices.Clone(*p), api.Ins{Op: 99}, api.Ins{Op: -1})[:len(*p)]
	}
	j.Marks = append(slices.Clone(j.Marks), 0, 9)[:len(j.Marks)]
	return c
}

func TestMemory(t *testing.T) {
	for i, turn := range []func(c *api.Config){
		func(c *api.Config) {},
		func(c *api.Config) { c.Job.Marks[0], c.Job.Marks[1] = 3, 2 },
		func(c *api.Config) { c.Job.Map[1].Op = 99 },
		func(c *api.Config) { c.Job.Combine = c.Job.Combine[:0] },
		func(c *api.Config) { c.Job.Splits[1][1].Value = strings.Repeat("v", 65) },
		func(c *api.Config) { c.Workers = 0 },
	} {
		c := roomy()
		turn(&c)
		before := copied(c)
		want := i == 0 || i == 3
		for range 2 {
			may := MayConfig(c)
			Home(c, 1)
			Turn(c, 1)
			if may != want || May(c.Job) != (want || i == 5) {
				t.Errorf("R4: %d: MayConfig tells %t with spare room", i, may)
			}
		}
		if !reflect.DeepEqual(copied(c), before) {
			t.Errorf("R4: %d: behind the calls what was handed in is %v, not %v", i, copied(c), before)
		}
	}
}

// TestNothingIsKept changes what was handed in between two calls: the second
// one tells of it as it then is.
func TestNothingIsKept(t *testing.T) {
	c := good()
	for range 3 {
		if !May(c.Job) || !MayConfig(c) || Home(c, 1) != 2 || Turn(c, 1) != 2 {
			t.Error("R5: one that may be is told otherwise behind one that may not")
		}
		c.Job.Marks[1] = 2
		if May(c.Job) || MayConfig(c) || Home(c, 1) != 0 || Turn(c, 1) != 0 {
			t.Error("R5: marks that may not be are taken behind ones that may")
		}
		c.Job.Marks[1] = 3
		c.Job.Reduce[0].Op = 99
		if May(c.Job) || MayConfig(c) || Home(c, 1) != 0 || Turn(c, 1) != 0 {
			t.Error("R5: a program that may not be is taken behind one that may")
		}
		c.Job.Reduce[0].Op = api.OpKey
	}
}

// TestLongLists hands in lists far beyond each bound: they are refused at once.
func TestLongLists(t *testing.T) {
	const n = 1 << 20
	ps, is := make([]api.Pair, n), make([]api.Ins, n)
	ms := make([]int, n)
	for i := range ms {
		ms[i] = i + 1
	}
	manySplits := make([][]api.Pair, n)
	for i := range manySplits {
		manySplits[i] = ps
	}
	begun := time.Now()
	checkJob(t, "many splits", false, func(j *api.Job) { j.Splits = manySplits })
	checkJob(t, "many pairs", false, func(j *api.Job) { j.Splits[0] = ps })
	checkJob(t, "many marks", false, func(j *api.Job) { j.Marks = ms })
	checkJob(t, "many marks and splits", false, func(j *api.Job) { j.Splits, j.Marks = manySplits, ms })
	checkJob(t, "a long Map", false, func(j *api.Job) { j.Map = is })
	checkJob(t, "a long Combine", false, func(j *api.Job) { j.Combine = is })
	checkJob(t, "a long Reduce", false, func(j *api.Job) { j.Reduce = is })
	if took := time.Since(begun); took > 2*time.Second {
		t.Errorf("R1: long lists took %v", took)
	}
}

func TestSeveralGoroutines(t *testing.T) {
	c := roomy()
	var done sync.WaitGroup
	for range 8 {
		done.Add(1)
		go func() {
			defer done.Done()
			for range 200 {
				if !May(c.Job) || !MayConfig(c) || Home(c, 2) != 1 || Turn(c, 3) != 2 {
					t.Error("R5: several goroutines are told otherwise")
					return
				}
			}
		}()
	}
	done.Wait()
}
