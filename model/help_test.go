package model

import (
	"math"
	"slices"
	"strconv"
	"strings"
	"testing"

	"staithe/api"
	"staithe/job"
	"staithe/vm"
)

// The bounds as the document writes them: a test that took them from the
// program would go along with a wrong one.
const (
	maxSplits  = 6
	maxParts   = 4
	maxRecords = 8
	maxPairs   = 40
	maxFuel    = 2000
)

// outside are numbers of no split and no part.
var outside = []int{-1, -2, -6, 6, 7, 99, math.MinInt32, math.MaxInt32, 1 << 32, -1 << 32, math.MinInt, math.MinInt + 1, math.MaxInt, math.MaxInt - 1}

// list answers pairs of words, each a key, a colon and a value.
func list(words ...string) []api.Pair {
	var ps []api.Pair
	for _, w := range words {
		key, value, _ := strings.Cut(w, ":")
		ps = append(ps, api.Pair{Key: key, Value: value})
	}
	return ps
}

// ends are instructions that, from place at on and with nothing on the stack,
// end a run for that reason.
func ends(reason, at int) []api.Ins {
	switch reason {
	case api.Under:
		return []api.Ins{{Op: api.OpDrop}}
	case api.Type:
		return []api.Ins{{Op: api.OpInt}, {Op: api.OpLen}}
	case api.Fuel:
		return []api.Ins{{Op: api.OpJump, A: at}}
	case api.Big:
		return []api.Ins{{Op: api.OpBytes, S: strings.Repeat("b", 64)}, {Op: api.OpDup}, {Op: api.OpCat}}
	case api.Many:
		return []api.Ins{{Op: api.OpKey}, {Op: api.OpDup}, {Op: api.OpEmit}, {Op: api.OpJump, A: at}}
	}
	return []api.Ins{{Op: api.OpBytes, S: "no key of a job"}, {Op: api.OpDup}, {Op: api.OpEmit}}
}

// ofRuns are the reasons that a run can end with.
func ofRuns() []int { return []int{api.Under, api.Type, api.Fuel, api.Big, api.Many} }

// first tells a key's first value, with the key.
func first() []api.Ins {
	return []api.Ins{{Op: api.OpKey}, {Op: api.OpNext}, {Op: api.OpDrop}, {Op: api.OpEmit}}
}

// each tells all of a key's values, with the key.
func each() []api.Ins {
	return []api.Ins{{Op: api.OpNext}, {Op: api.OpIf, A: 3}, {Op: api.OpHalt}, {Op: api.OpStore}, {Op: api.OpKey}, {Op: api.OpLoad}, {Op: api.OpEmit}, {Op: api.OpJump}}
}

// silent tells nothing.
func silent() []api.Ins { return []api.Ins{{Op: api.OpHalt}} }

// other tells a pair of the key "other", whatever it is given.
func other() []api.Ins {
	return []api.Ins{{Op: api.OpBytes, S: "other"}, {Op: api.OpDup}, {Op: api.OpEmit}}
}

// count tells a key with how many values there are of it.
func count() []api.Ins {
	return []api.Ins{
		{Op: api.OpNext}, {Op: api.OpIf, A: 7}, {Op: api.OpKey}, {Op: api.OpLoad, A: 1}, {Op: api.OpText}, {Op: api.OpEmit}, {Op: api.OpHalt},
		{Op: api.OpDrop}, {Op: api.OpLoad, A: 1}, {Op: api.OpInt, A: 1}, {Op: api.OpAdd}, {Op: api.OpStore, A: 1}, {Op: api.OpJump},
	}
}

// joined tells a key with all of its values, one behind the other.
func joined() []api.Ins {
	return []api.Ins{
		{Op: api.OpBytes}, {Op: api.OpStore, A: 1},
		{Op: api.OpNext}, {Op: api.OpIf, A: 8}, {Op: api.OpKey}, {Op: api.OpLoad, A: 1}, {Op: api.OpEmit}, {Op: api.OpHalt},
		{Op: api.OpLoad, A: 1}, {Op: api.OpSwap}, {Op: api.OpCat}, {Op: api.OpStore, A: 1}, {Op: api.OpJump, A: 2},
	}
}

// falls tells as many pairs as its first value says, of the numbers from that
// one down to 1, with the key; of the key "z" it then ends for that reason.
func falls(reason int) []api.Ins {
	p := []api.Ins{
		{Op: api.OpNext}, {Op: api.OpDrop}, {Op: api.OpNum}, {Op: api.OpStore, A: 1},
		{Op: api.OpLoad, A: 1}, {Op: api.OpIf, A: 8}, {Op: api.OpKey}, {Op: api.OpJump, A: 17},
		{Op: api.OpKey}, {Op: api.OpLoad, A: 1}, {Op: api.OpText}, {Op: api.OpEmit},
		{Op: api.OpLoad, A: 1}, {Op: api.OpInt, A: 1}, {Op: api.OpSub}, {Op: api.OpStore, A: 1}, {Op: api.OpJump, A: 4},
		{Op: api.OpBytes, S: "z"}, {Op: api.OpEq}, {Op: api.OpIf, A: 21}, {Op: api.OpHalt},
	}
	return append(p, ends(reason, len(p))...)
}

// acts tells all of a key's values with the key, but for the values "u", "t",
// "f", "b", "m", which end the run by Under, Type, Fuel, Big, Many.
func acts() []api.Ins {
	p := []api.Ins{{Op: api.OpNext}, {Op: api.OpIf, A: 3}, {Op: api.OpHalt}}
	for _, jump := range []struct {
		value string
		to    int
	}{{"u", 28}, {"t", 27}, {"f", 30}, {"b", 31}, {"m", 34}} {
		p = append(p, api.Ins{Op: api.OpDup}, api.Ins{Op: api.OpBytes, S: jump.value}, api.Ins{Op: api.OpEq}, api.Ins{Op: api.OpIf, A: jump.to})
	}
	p = append(p, api.Ins{Op: api.OpKey}, api.Ins{Op: api.OpSwap}, api.Ins{Op: api.OpEmit}, api.Ins{Op: api.OpJump})
	p = append(p, api.Ins{Op: api.OpText}, api.Ins{Op: api.OpDrop}, api.Ins{Op: api.OpDrop}, api.Ins{Op: api.OpJump, A: 30})
	p = append(p, ends(api.Big, 31)...)
	return append(p, ends(api.Many, 34)...)
}

// word is the value by which acts ends for that reason.
func word(reason int) string { return string("?utfbm"[reason]) }

// good answers a job that may be, of these splits and two parts, that tells
// what it is given.
func good(splits ...[]api.Pair) api.Job {
	return api.Job{Splits: splits, Parts: 2, Map: each(), Reduce: each(), Chunk: 1, Window: 1, Fuel: maxFuel}
}

// reasoned answers a job each of whose splits has that reason, or is fine.
func reasoned(reasons ...int) api.Job {
	j := good()
	j.Map = acts()
	for s, why := range reasons {
		split := list("a:"+strconv.Itoa(s), "b:"+strconv.Itoa(s))
		if why != api.Fine {
			split = append(split, api.Pair{Key: "c", Value: word(why)})
		}
		j.Splits = append(j.Splits, split)
	}
	return j
}

// badJobs are jobs that may not be, each for one thing alone.
func badJobs(t *testing.T) map[string]api.Job {
	t.Helper()
	all := map[string]api.Job{"nothing at all": {}}
	for name, turn := range map[string]func(j *api.Job){
		"no split":          func(j *api.Job) { j.Splits = nil },
		"too many splits":   func(j *api.Job) { j.Splits = make([][]api.Pair, maxSplits+1) },
		"too many records":  func(j *api.Job) { j.Splits[1] = make([]api.Pair, maxRecords+1) },
		"a long key":        func(j *api.Job) { j.Splits[1][0].Key = strings.Repeat("k", 17) },
		"a long value":      func(j *api.Job) { j.Splits[1][0].Value = strings.Repeat("v", 65) },
		"no part":           func(j *api.Job) { j.Parts = 0 },
		"parts below 0":     func(j *api.Job) { j.Parts = -1 },
		"too many parts":    func(j *api.Job) { j.Parts = maxParts + 1 },
		"no Map":            func(j *api.Job) { j.Map = nil },
		"a bad Map":         func(j *api.Job) { j.Map = []api.Ins{{Op: 99}} },
		"a bad Combine":     func(j *api.Job) { j.Combine = []api.Ins{{Op: 99}} },
		"no Reduce":         func(j *api.Job) { j.Reduce = []api.Ins{} },
		"a long Reduce":     func(j *api.Job) { j.Reduce = make([]api.Ins, 41) },
		"a Chunk of 0":      func(j *api.Job) { j.Chunk = 0 },
		"a Chunk of 8":      func(j *api.Job) { j.Chunk = 8 },
		"a Window of 5":     func(j *api.Job) { j.Window = 5 },
		"a Fuel of 0":       func(j *api.Job) { j.Fuel = 0 },
		"too much Fuel":     func(j *api.Job) { j.Fuel = maxFuel + 1 },
		"a mark of 0":       func(j *api.Job) { j.Marks = []int{0} },
		"marks that fall":   func(j *api.Job) { j.Marks = []int{2, 1} },
		"a mark too great":  func(j *api.Job) { j.Marks = []int{3} },
		"Parts far outside": func(j *api.Job) { j.Parts = math.MaxInt },
	} {
		j := good(list("a:1"), list("b:2"))
		if !job.May(j) {
			t.Fatal("P12.1: the job that is turned may not be")
		}
		turn(&j)
		all[name] = j
	}
	return all
}

func askSplit(t *testing.T, what string, j api.Job, s int, want []api.Pair, reason int) {
	t.Helper()
	if got, why := Split(j, s); !slices.Equal(got, want) || why != reason {
		t.Errorf("P13.1: %s: Split %d: %v, %d and not %v, %d", what, s, got, why, want, reason)
	}
}

func askRun(t *testing.T, what string, j api.Job, s, p int, want []api.Pair, reason int) {
	t.Helper()
	if got, why := Run(j, s, p); !slices.Equal(got, want) || why != reason {
		t.Errorf("P13.1: %s: Run %d, %d: %v, %d and not %v, %d", what, s, p, got, why, want, reason)
	}
}

func askPart(t *testing.T, what string, j api.Job, p int, set []int, want []api.Pair, reason int) {
	t.Helper()
	if got, why := Part(j, p, set); !slices.Equal(got, want) || why != reason {
		t.Errorf("P13.1: %s: Part %d of %v: %v, %d and not %v, %d", what, p, set, got, why, want, reason)
	}
}

func askWhole(t *testing.T, what string, j api.Job, want [][]api.Pair, reason, ahead int) {
	t.Helper()
	got, why, at := Whole(j)
	if !slices.EqualFunc(got, want, slices.Equal) || why != reason || at != ahead {
		t.Errorf("P13.2: %s: Whole: %v, %d, %d and not %v, %d, %d", what, got, why, at, want, reason, ahead)
	}
}

func askAllows(t *testing.T, what string, j api.Job, reason, at int, reduce, want bool) {
	t.Helper()
	if got := Allows(j, reason, at, reduce); got != want {
		t.Errorf("P13.2: %s: Allows %d at %d, reduce %t: %t", what, reason, at, reduce, got)
	}
}

func TestTheTestsOwnProgramsDoWhatTheyAreFor(t *testing.T) {
	for _, why := range ofRuns() {
		if _, got := vm.Run(ends(why, 0), "k", nil, maxFuel); got != why {
			t.Errorf("ends of %d: %d", why, got)
		}
		if _, got := vm.Run(acts(), "k", []string{"0", word(why), "2"}, maxFuel); got != why {
			t.Errorf("acts of %d: %d", why, got)
		}
		if _, got := vm.Run(falls(why), "z", []string{"3"}, maxFuel); got != why {
			t.Errorf("falls of %d: %d", why, got)
		}
		if told, got := vm.Run(falls(why), "k", []string{"3"}, maxFuel); !slices.Equal(told, list("k:3", "k:2", "k:1")) || got != api.Fine {
			t.Errorf("falls of %d: %v, %d", why, told, got)
		}
	}
	for name, x := range map[string]struct {
		p    []api.Ins
		want []api.Pair
	}{
		"first": {first(), list("k:x")}, "each": {each(), list("k:x", "k:y")}, "silent": {silent(), nil}, "other": {other(), list("other:other")},
		"count": {count(), list("k:2")}, "joined": {joined(), list("k:xy")}, "acts": {acts(), list("k:x", "k:y")},
	} {
		if told, why := vm.Run(x.p, "k", []string{"x", "y"}, maxFuel); !slices.Equal(told, x.want) || why != api.Fine {
			t.Errorf("%s: %v, %d", name, told, why)
		}
	}
}

func TestAJobThatMayNotBe(t *testing.T) {
	for name, j := range badJobs(t) {
		for _, n := range append([]int{0, 1}, outside...) {
			askSplit(t, name, j, n, nil, api.Type)
			askPart(t, name, j, n, []int{0, 1}, nil, api.Type)
			askPart(t, name, j, n, nil, nil, api.Type)
			for _, p := range []int{0, 1, -1, 9} {
				askRun(t, name, j, n, p, nil, api.Type)
			}
			for reason := -1; reason <= api.BadKey+1; reason++ {
				askAllows(t, name, j, reason, n, false, false)
				askAllows(t, name, j, reason, n, true, false)
			}
		}
		askWhole(t, name, j, nil, api.Type, 0)
	}
}
