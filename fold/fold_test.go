package fold

import (
	"math"
	"math/rand"
	"slices"
	"strconv"
	"strings"
	"sync"
	"testing"

	"staithe/api"
	"staithe/pair"
	"staithe/vm"
)

type folder func(p []api.Ins, ps []api.Pair, fuel int) ([]api.Pair, int)

// both are the two calls, by their names.
func both() map[string]folder { return map[string]folder{"Each": Each, "Combine": Combine} }

// list answers pairs of words, each a key, a colon and a value.
func list(words ...string) []api.Pair {
	var ps []api.Pair
	for _, w := range words {
		key, value, _ := strings.Cut(w, ":")
		ps = append(ps, api.Pair{Key: key, Value: value})
	}
	return ps
}

// times answers n pairs of one key and one value.
func times(n int, key, value string) []api.Pair {
	return slices.Repeat(list(key+":"+value), n)
}

// first tells a key's first value, with the key.
func first() []api.Ins {
	return []api.Ins{{Op: api.OpKey}, {Op: api.OpNext}, {Op: api.OpDrop}, {Op: api.OpEmit}}
}

// acts tells each value with its key, but for the values that name something
// else: "t", "u", "f", "b" end the run by Type, Under, Fuel, Big, and "o" is
// told with the key "other".
func acts() []api.Ins {
	p := []api.Ins{{Op: api.OpNext}, {Op: api.OpIf, A: 3}, {Op: api.OpHalt}}
	for _, jump := range []struct {
		value string
		to    int
	}{{"t", 27}, {"u", 28}, {"f", 30}, {"b", 31}, {"o", 34}} {
		p = append(p, api.Ins{Op: api.OpDup}, api.Ins{Op: api.OpBytes, S: jump.value}, api.Ins{Op: api.OpEq}, api.Ins{Op: api.OpIf, A: jump.to})
	}
	return append(p, []api.Ins{
		{Op: api.OpKey}, {Op: api.OpSwap}, {Op: api.OpEmit}, {Op: api.OpJump},
		{Op: api.OpText},
		{Op: api.OpDrop}, {Op: api.OpDrop},
		{Op: api.OpJump, A: 30},
		{Op: api.OpBytes, S: strings.Repeat("b", api.MaxBytes)}, {Op: api.OpDup}, {Op: api.OpCat},
		{Op: api.OpBytes, S: "other"}, {Op: api.OpSwap}, {Op: api.OpEmit}, {Op: api.OpJump},
	}...)
}

// roomy answers a list with spare room behind it, filled with something to be
// watched.
func roomy[T any](all []T, spare ...T) []T {
	return append(slices.Clone(all), spare...)[:len(all)]
}

// spoil overwrites all that a list has room for.
func spoil(ps []api.Pair) {
	ps = ps[:cap(ps)]
	for i := range ps {
		ps[i] = api.Pair{Key: "spoiled", Value: "spoiled"}
	}
}

func ask(t *testing.T, name string, p []api.Ins, ps []api.Pair, fuel int, want []api.Pair, reason int) {
	t.Helper()
	got, why := both()[name](p, ps, fuel)
	if !slices.Equal(got, want) || why != reason {
		t.Errorf("P9.1: %s of %v, fuel %d: %v, %d and not %v, %d", name, ps, fuel, got, why, want, reason)
	}
}

func askBoth(t *testing.T, p []api.Ins, ps []api.Pair, fuel int, want []api.Pair, reason int) {
	t.Helper()
	ask(t, "Each", p, ps, fuel, want, reason)
	ask(t, "Combine", p, ps, fuel, want, reason)
}

func TestTheChaptersExample(t *testing.T) {
	askBoth(t, first(), list("b:1", "a:2", "b:0"), 9, list("a:2", "b:1"), api.Fine)
}

func TestTheTestsOwnProgramDoesWhatItIsFor(t *testing.T) {
	for value, reason := range map[string]int{"1": api.Fine, "o": api.Fine, "t": api.Type, "u": api.Under, "f": api.Fuel, "b": api.Big} {
		if _, why := vm.Run(acts(), "k", []string{"0", value, "2"}, api.MaxFuel); why != reason {
			t.Errorf("acts of %q: %d, not %d", value, why, reason)
		}
	}
	if told, _ := vm.Run(acts(), "k", []string{"0", "o", "2"}, api.MaxFuel); !slices.Equal(told, list("k:0", "other:o", "k:2")) {
		t.Errorf("acts: %v", told)
	}
}

func TestNoPairsAtAll(t *testing.T) {
	for _, p := range [][]api.Ins{nil, {}, first(), acts(), {{Op: 99}}, {{Op: -1}}, {{Op: api.OpJump, A: 2}}, make([]api.Ins, api.MaxIns+1)} {
		for _, fuel := range []int{math.MinInt, -1, 0, 9, math.MaxInt} {
			askBoth(t, p, nil, fuel, nil, api.Fine)
			askBoth(t, p, []api.Pair{}, fuel, nil, api.Fine)
		}
	}
}

func TestEachOfNoInstruction(t *testing.T) {
	ps := list("b:1", "a:2", "b:0")
	for _, fuel := range []int{0, 1, 9, api.MaxFuel, math.MaxInt} {
		ask(t, "Each", nil, ps, fuel, nil, api.Fine)
		ask(t, "Each", []api.Ins{}, ps, fuel, nil, api.Fine)
	}
	ask(t, "Each", nil, ps, -1, nil, api.Type)
}

func TestKeysRiseAndValuesKeepTheirOrder(t *testing.T) {
	askBoth(t, acts(), list("c:3", "b:9", "a:7", "c:1", "a:7", "b:8", "a:0", "c:2"), api.MaxFuel,
		list("a:7", "a:7", "a:0", "b:9", "b:8", "c:3", "c:1", "c:2"), api.Fine)
	askBoth(t, first(), list("c:3", "b:9", "a:7", "c:1", "b:8", "a:0"), 9, list("a:7", "b:9", "c:3"), api.Fine)
	askBoth(t, acts(), list("b:", "\xff:1", ":2", "\x00:3", "a:4", "\x80:5", "aa:6", "é:7", ":8"), api.MaxFuel,
		list(":2", ":8", "\x00:3", "a:4", "aa:6", "b:", "\x80:5", "é:7", "\xff:1"), api.Fine)
}

func TestEachRunIsWholeAndItsOwn(t *testing.T) {
	// How many values a run is given is told, so a key that ran twice, or with
	// what another one left in a register, would show.
	count := []api.Ins{
		{Op: api.OpNext}, {Op: api.OpIf, A: 7}, {Op: api.OpKey}, {Op: api.OpLoad, A: 1}, {Op: api.OpText}, {Op: api.OpEmit}, {Op: api.OpHalt},
		{Op: api.OpDrop}, {Op: api.OpLoad, A: 1}, {Op: api.OpInt, A: 1}, {Op: api.OpAdd}, {Op: api.OpStore, A: 1}, {Op: api.OpJump},
	}
	askBoth(t, count, list("b:x", "a:x", "b:x", "c:x", "b:y", "a:x"), api.MaxFuel, list("a:2", "b:3", "c:1"), api.Fine)
}

func TestEachRunHasItsOwnFuel(t *testing.T) {
	var ps, want []api.Pair
	for i := range api.MaxPairs {
		ps = append(list("k"+strconv.Itoa(10+i)+":v"), ps...)
		want = append(want, list("k"+strconv.Itoa(10+i)+":v")...)
	}
	askBoth(t, first(), ps, 4, want, api.Fine)
	askBoth(t, first(), ps, 3, nil, api.Fuel)
	askBoth(t, first(), ps, 0, nil, api.Fuel)
	// Two values need more than one: the longest run says whether fuel is enough.
	two := list("a:1", "b:1", "b:2", "c:1")
	need := vm.Steps(acts(), "b", []string{"1", "2"}, api.MaxFuel)
	askBoth(t, acts(), two, need, two, api.Fine)
	askBoth(t, acts(), two, need-1, nil, api.Fuel)
	askBoth(t, first(), ps, math.MaxInt, want, api.Fine)
}

func TestTheFirstReason(t *testing.T) {
	reasons := map[string]int{"t": api.Type, "u": api.Under, "f": api.Fuel, "b": api.Big}
	for one, reason := range reasons {
		askBoth(t, acts(), list("a:"+one), api.MaxFuel, nil, reason)
		askBoth(t, acts(), list("c:1", "b:"+one, "a:1"), api.MaxFuel, nil, reason)
		for another := range reasons {
			askBoth(t, acts(), list("c:"+another, "b:"+one, "a:1"), api.MaxFuel, nil, reason)
			askBoth(t, acts(), list("b:"+another, "a:1", "a:"+one), api.MaxFuel, nil, reason)
		}
	}
	askBoth(t, first(), list("b:1", "a:2", strings.Repeat("k", api.MaxKey+1)+":3"), 9, nil, api.Big)
	askBoth(t, first(), list("b:1", "a:2", strings.Repeat("k", api.MaxKey)+":3"), 9, list("a:2", "b:1", strings.Repeat("k", api.MaxKey)+":3"), api.Fine)
	askBoth(t, first(), list("b:1", "a:"+strings.Repeat("v", api.MaxBytes+1)), 9, nil, api.Big)
}

func TestProgramsAndFuelThatMayNotBe(t *testing.T) {
	ps := list("b:1", "a:2")
	for _, p := range [][]api.Ins{{{Op: 99}}, {{Op: -1}}, {{Op: api.OpJump, A: 2}}, make([]api.Ins, api.MaxIns+1)} {
		askBoth(t, p, ps, 9, nil, api.Type)
		askBoth(t, p, ps, -9, nil, api.Type)
	}
	for _, fuel := range []int{-1, -2, math.MinInt} {
		askBoth(t, first(), ps, fuel, nil, api.Type)
	}
	askBoth(t, make([]api.Ins, api.MaxIns), ps, 9, nil, api.Fine)
}

func TestMany(t *testing.T) {
	for _, counts := range [][]int{{40}, {20, 20}, {39, 1}, {1, 39}, {0, 40}, {13, 13, 14}, {10, 10, 10, 10}} {
		var just []api.Pair
		for i, n := range counts {
			just = slices.Concat(times(n, "k"+strconv.Itoa(i), "v"), just)
		}
		askBoth(t, acts(), just, api.MaxFuel, pair.Sort(just), api.Fine)
		for i := range counts {
			more := slices.Concat(just, times(1, "k"+strconv.Itoa(i), "v"))
			askBoth(t, acts(), more, api.MaxFuel, nil, api.Many)
		}
		askBoth(t, acts(), slices.Concat(just, list("z:1")), api.MaxFuel, nil, api.Many)
		askBoth(t, acts(), slices.Concat(list("a:1"), just), api.MaxFuel, nil, api.Many)
	}
	askBoth(t, acts(), slices.Concat(times(40, "a", "1"), times(40, "b", "1"), times(40, "c", "1")), api.MaxFuel, nil, api.Many)
	askBoth(t, acts(), slices.Concat(times(40, "a", "1"), times(2, "b", "1"), times(1, "c", "1")), api.MaxFuel, nil, api.Many)
}

func TestARunsOwnReasonAheadOfMany(t *testing.T) {
	for one, reason := range map[string]int{"t": api.Type, "u": api.Under, "f": api.Fuel, "b": api.Big} {
		askBoth(t, acts(), slices.Concat(times(40, "a", "1"), list("b:1", "b:"+one)), api.MaxFuel, nil, reason)
		askBoth(t, acts(), slices.Concat(list("a:"+one), times(30, "b", "1"), times(30, "c", "1")), api.MaxFuel, nil, reason)
		askBoth(t, acts(), slices.Concat(times(30, "a", "1"), times(30, "b", "1"), list("c:"+one)), api.MaxFuel, nil, reason)
		// Of two runs' own reasons, one of them Many, the first one.
		askBoth(t, acts(), slices.Concat(times(41, "a", "1"), list("b:"+one)), api.MaxFuel, nil, api.Many)
		askBoth(t, acts(), slices.Concat(list("a:"+one), times(41, "b", "1")), api.MaxFuel, nil, reason)
	}
}

func TestCombineOfNoInstruction(t *testing.T) {
	ps := list("b:1", "a:2", "b:0", ":3", "a:1", strings.Repeat("k", api.MaxKey+1)+":4", "c:"+strings.Repeat("v", api.MaxBytes+1))
	many := slices.Repeat(ps, 100)
	for _, p := range [][]api.Ins{nil, {}} {
		for _, fuel := range []int{math.MinInt, -5, -1, 0, 1, api.MaxFuel, math.MaxInt} {
			ask(t, "Combine", p, ps, fuel, pair.Sort(ps), api.Fine)
			ask(t, "Combine", p, many, fuel, pair.Sort(many), api.Fine)
		}
	}
	ask(t, "Combine", nil, list("b:1", "a:2", "b:0"), 0, list("a:2", "b:1", "b:0"), api.Fine)
}

func TestBadKey(t *testing.T) {
	for _, ps := range [][]api.Pair{
		list("a:o"),
		list("a:o", "a:1", "a:2"),
		list("a:1", "a:o", "a:2"),
		list("a:1", "a:2", "a:o"),
		list("c:1", "c:o", "b:1", "a:1"),
		list("c:1", "b:1", "a:o"),
		list("c:1", "b:o", "a:1"),
		list("other:o", "z:o"),
	} {
		ask(t, "Combine", acts(), ps, api.MaxFuel, nil, api.BadKey)
		if told, why := Each(acts(), ps, api.MaxFuel); len(told) != len(ps) || why != api.Fine {
			t.Errorf("P9.1: Each of %v: %v, %d", ps, told, why)
		}
	}
	askBoth(t, acts(), list("other:o", "a:1", "other:2"), api.MaxFuel, list("a:1", "other:o", "other:2"), api.Fine)
	// A key that is another's beginning, or that another run has, is another one.
	fixed := func(s string) []api.Ins {
		return []api.Ins{{Op: api.OpBytes, S: s}, {Op: api.OpDup}, {Op: api.OpEmit}}
	}
	for _, key := range []string{"", "a", "ab", "A", "b", "a\x00"} {
		for _, told := range []string{"", "a", "ab", "A", "b", "a\x00"} {
			want, why := []api.Pair{{Key: told, Value: told}}, api.Fine
			if key != told {
				want, why = nil, api.BadKey
			}
			ask(t, "Combine", fixed(told), list(key+":1"), 9, want, why)
			ask(t, "Each", fixed(told), list(key+":1"), 9, []api.Pair{{Key: told, Value: told}}, api.Fine)
		}
	}
	ask(t, "Combine", fixed("a"), list("b:1", "a:1"), 9, nil, api.BadKey)
	ask(t, "Each", fixed("a"), list("b:1", "a:1"), 9, list("a:a", "a:a"), api.Fine)
}

func TestBadKeyAheadOfMany(t *testing.T) {
	for _, ps := range [][]api.Pair{
		slices.Concat(times(40, "a", "1"), list("b:o")),
		slices.Concat(times(40, "a", "1"), times(40, "b", "o")),
		slices.Concat(list("a:o"), times(40, "b", "1")),
		slices.Concat(times(30, "a", "1"), times(30, "b", "1"), list("c:o")),
	} {
		ask(t, "Combine", acts(), ps, api.MaxFuel, nil, api.BadKey)
		ask(t, "Each", acts(), ps, api.MaxFuel, nil, api.Many)
	}
}

func TestARunsOwnReasonAheadOfBadKey(t *testing.T) {
	for one, reason := range map[string]int{"t": api.Type, "u": api.Under, "f": api.Fuel, "b": api.Big} {
		askBoth(t, acts(), list("a:o", "a:"+one), api.MaxFuel, nil, reason)
		askBoth(t, acts(), list("c:o", "b:o", "b:"+one, "a:1"), api.MaxFuel, nil, reason)
		// An earlier run's reason is the first one, BadKey too.
		ask(t, "Combine", acts(), list("a:o", "b:"+one), api.MaxFuel, nil, api.BadKey)
		ask(t, "Each", acts(), list("a:o", "b:"+one), api.MaxFuel, nil, reason)
		askBoth(t, acts(), list("b:o", "a:"+one), api.MaxFuel, nil, reason)
	}
	// A run of too many pairs ends by its own Many, whatever their keys are.
	askBoth(t, acts(), times(41, "a", "o"), api.MaxFuel, nil, api.Many)
}

// asTheWordsGo folds by the chapter's words: keys out of a set, values by
// going through all pairs; every run is done ahead of asking what went wrong.
func asTheWordsGo(p []api.Ins, ps []api.Pair, fuel int, own bool) ([]api.Pair, int) {
	var keys []string
	for _, x := range ps {
		if !slices.Contains(keys, x.Key) {
			keys = append(keys, x.Key)
		}
	}
	slices.Sort(keys)
	var all []api.Pair
	var reasons []int
	for _, key := range keys {
		var values []string
		for _, x := range ps {
			if x.Key == key {
				values = append(values, x.Value)
			}
		}
		told, why := vm.Run(p, key, values, fuel)
		for _, x := range told {
			if own && x.Key != key {
				why = api.BadKey
			}
		}
		all = append(all, told...)
		reasons = append(reasons, why)
	}
	for _, why := range reasons {
		if why != api.Fine {
			return nil, why
		}
	}
	if len(all) > api.MaxPairs {
		return nil, api.Many
	}
	return all, api.Fine
}

func TestAsTheWordsGo(t *testing.T) {
	draw := rand.New(rand.NewSource(9))
	var reasons [api.BadKey + 1]int
	for range 6000 {
		var ps []api.Pair
		odd := draw.Intn(4)
		for i := range draw.Intn(60) {
			value := strconv.Itoa(i)
			if draw.Intn(60) < odd {
				value = string("tufbo"[draw.Intn(5)])
			}
			ps = append(ps, api.Pair{Key: []string{"", "a", "b", "\xff", "other", "ab"}[draw.Intn(6)], Value: value})
		}
		p := [][]api.Ins{acts(), acts(), acts(), first(), {{Op: 99}}}[draw.Intn(5)]
		fuel := []int{api.MaxFuel, api.MaxFuel, api.MaxFuel, 200, draw.Intn(500) - 20}[draw.Intn(5)]
		want, why := asTheWordsGo(p, ps, fuel, false)
		ask(t, "Each", p, ps, fuel, want, why)
		want, why = asTheWordsGo(p, ps, fuel, true)
		ask(t, "Combine", p, ps, fuel, want, why)
		reasons[why]++
		if t.Failed() {
			t.FailNow()
		}
	}
	if slices.Min(reasons[:]) < 20 {
		t.Errorf("what was drawn is too much alike: %v", reasons)
	}
}

func TestNothingHandedInIsChanged(t *testing.T) {
	spare := api.Ins{Op: 77, A: 77, S: "spare"}
	for name, fold := range both() {
		for _, p := range [][]api.Ins{nil, first(), acts()} {
			for _, ps := range [][]api.Pair{nil, list("b:1", "a:2", "b:0"), list("a:t"), list("c:o", "b:1", "a:1"), times(41, "a", "1")} {
				program, pairs := roomy(p, spare, spare), roomy(ps, list("spare:1", "a:spare", ":2")...)
				wantProgram, wantPairs := slices.Clone(program[:cap(program)]), slices.Clone(pairs[:cap(pairs)])
				told, why := fold(program, pairs, api.MaxFuel)
				want := slices.Clone(told)
				spoil(told)
				if !slices.Equal(program[:cap(program)], wantProgram) || !slices.Equal(pairs[:cap(pairs)], wantPairs) {
					t.Errorf("R4: %s of %v changed what was handed in", name, ps)
				}
				if again, reason := fold(program, pairs, api.MaxFuel); !slices.Equal(again, want) || reason != why {
					t.Errorf("R4: %s of %v: %v, %d, then %v, %d", name, ps, want, why, again, reason)
				}
			}
		}
	}
}

func TestAnswersShareNothing(t *testing.T) {
	for name, fold := range both() {
		for _, p := range [][]api.Ins{nil, first(), acts()} {
			ps := list("b:1", "a:2", "b:0")
			one, _ := fold(p, ps, api.MaxFuel)
			another, _ := fold(p, ps, api.MaxFuel)
			want := slices.Clone(another)
			spoil(one)
			spoil(ps)
			if !slices.Equal(another, want) {
				t.Errorf("R4: %s: %v and not %v", name, another, want)
			}
		}
	}
}

func TestFromManyGoroutines(t *testing.T) {
	ps := list("b:1", "a:2", "b:0", "other:o")
	want, _ := Each(acts(), ps, api.MaxFuel)
	var all sync.WaitGroup
	for range 8 {
		all.Add(1)
		go func() {
			defer all.Done()
			for range 200 {
				each, _ := Each(acts(), ps, api.MaxFuel)
				combined, _ := Combine(acts(), ps, api.MaxFuel)
				sorted, _ := Combine(nil, ps, api.MaxFuel)
				if !slices.Equal(each, want) || !slices.Equal(combined, want) || !slices.Equal(sorted, want) {
					t.Errorf("R5: %v, %v, %v", each, combined, sorted)
					return
				}
			}
		}()
	}
	all.Wait()
}

func TestManyKeys(t *testing.T) {
	var ps []api.Pair
	for i := range 60000 {
		ps = append(ps, api.Pair{Key: strconv.Itoa(i * 7 % 30000), Value: strconv.Itoa(i)})
	}
	askQuietly := func(p []api.Ins, ps []api.Pair, reason int) {
		t.Helper()
		for name, fold := range both() {
			if told, why := fold(p, ps, api.MaxFuel); len(told) != 0 || why != reason {
				t.Errorf("P9.1: %s of %d pairs: %d pairs, %d and not %d", name, len(ps), len(told), why, reason)
			}
		}
	}
	askQuietly([]api.Ins{{Op: api.OpHalt}}, ps, api.Fine)
	askQuietly(first(), ps, api.Many)
	askQuietly(acts(), append(ps, api.Pair{Key: "z", Value: "t"}), api.Type)
}
