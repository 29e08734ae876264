package model

import (
	"slices"
	"strconv"
	"strings"
	"testing"

	"staithe/api"
	"staithe/pair"
	"staithe/part"
	"staithe/vm"
)

func TestTheChaptersExample(t *testing.T) {
	j := good(list("b:1", "a:2"))
	j.Map = first()
	askSplit(t, "the example", j, 0, list("a:2", "b:1"), api.Fine)
}

func TestSplitsOfAllSizes(t *testing.T) {
	var records, want []api.Pair
	for i := range maxRecords {
		records = append(records, list("k"+strconv.Itoa(9-i)+":"+strconv.Itoa(i))...)
		want = slices.Concat(records[i:], want)[:i+1]
		askSplit(t, "distinct keys", good(nil, records, list("x:1")), 1, want, api.Fine)
	}
	one := slices.Repeat(list("a:3", "a:1", "a:2", "a:1"), 2)
	for n := range maxRecords + 1 {
		askSplit(t, "one key", good(one[:n]), 0, one[:n], api.Fine)
	}
	several := list("b:1", "a:9", "c:", "a:0", "b:1", ":5", "b:0", "a:9")
	askSplit(t, "several keys", good(several), 0, list(":5", "a:9", "a:0", "a:9", "b:1", "b:1", "b:0", "c:"), api.Fine)
	askSplit(t, "keys by bytes", good(list("é:1", "\xff:2", "\x00:3", "z:4", "Z:5", "zz:6")), 0, list("\x00:3", "Z:5", "z:4", "zz:6", "é:1", "\xff:2"), api.Fine)
	for s, want := range [][]api.Pair{list("a:0"), nil, list("a:2", "b:2"), nil, list("b:4"), list("a:5")} {
		j := good(list("a:0"), nil, list("b:2", "a:2"), []api.Pair{}, list("b:4"), list("a:5"))
		askSplit(t, "each of six", j, s, want, api.Fine)
	}
	long := api.Pair{Key: strings.Repeat("k", 16), Value: strings.Repeat("v", 64)}
	askSplit(t, "the longest pair", good([]api.Pair{long}), 0, []api.Pair{long}, api.Fine)
}

func TestWhatAMapTells(t *testing.T) {
	j := good(list("b:1", "a:2", "b:3"))
	j.Map = silent()
	askSplit(t, "nothing", j, 0, nil, api.Fine)
	j.Map = first()
	askSplit(t, "one for each record", j, 0, list("a:2", "b:1", "b:3"), api.Fine)
	j.Map = falls(api.Type)
	askSplit(t, "several for a record", j, 0, list("a:2", "a:1", "b:1", "b:3", "b:2", "b:1"), api.Fine)
	j.Map = other()
	askSplit(t, "of another key", j, 0, slices.Repeat(list("other:other"), 3), api.Fine)
	// Told in the order of records, whatever their keys are.
	j.Map = []api.Ins{{Op: api.OpBytes, S: "o"}, {Op: api.OpKey}, {Op: api.OpEmit}}
	askSplit(t, "records in order", j, 0, list("o:b", "o:a", "o:b"), api.Fine)
	// A run has its record's value alone, though others have the same key.
	j.Map = count()
	askSplit(t, "one value alone", j, 0, list("a:1", "b:1", "b:1"), api.Fine)
	j.Map = joined()
	askSplit(t, "its own value", j, 0, list("a:2", "b:1", "b:3"), api.Fine)
}

func TestEachReasonOfAMap(t *testing.T) {
	for _, reason := range ofRuns() {
		for n := 1; n <= maxRecords; n++ {
			for at := range n {
				records := slices.Repeat(list("b:1"), n)
				records[at] = list("z:2")[0]
				j := good(list("a:1"), records, list("b:2"))
				j.Map = falls(reason)
				what := "reason " + strconv.Itoa(reason) + " at record " + strconv.Itoa(at) + " of " + strconv.Itoa(n)
				askSplit(t, what, j, 1, nil, reason)
				askSplit(t, what, j, 0, list("a:1"), api.Fine)
				askSplit(t, what, j, 2, list("b:2", "b:1"), api.Fine)
				j.Combine = ends(api.BadKey, 0)
				askSplit(t, what+" and of the Combine", j, 1, nil, reason)
			}
		}
	}
}

func TestTheFirstReasonOfAMap(t *testing.T) {
	for _, one := range ofRuns() {
		for _, another := range ofRuns() {
			j := good(list("b:1", "b:"+word(one), "a:2", "a:"+word(another)))
			j.Map = acts()
			askSplit(t, "two reasons", j, 0, nil, one)
		}
	}
}

func TestEachRunOfAMapHasTheJobsFuel(t *testing.T) {
	j := good(slices.Repeat(list("a:1"), maxRecords))
	j.Map = falls(api.Type)
	need := vm.Steps(j.Map, "a", []string{"1"}, maxFuel)
	j.Fuel = need
	askSplit(t, "just enough", j, 0, slices.Repeat(list("a:1"), maxRecords), api.Fine)
	j.Fuel = need - 1
	askSplit(t, "one too few", j, 0, nil, api.Fuel)
}

func TestManyOfASplit(t *testing.T) {
	for _, counts := range [][]int{{40}, {20, 20}, {39, 1}, {1, 39}, {0, 40}, {40, 0}, {13, 0, 13, 14}, {5, 5, 5, 5, 5, 5, 5, 5}, {0, 0, 0, 0, 0, 0, 0, 40}} {
		var split, want []api.Pair
		for i, n := range counts {
			key := "k" + strconv.Itoa(i)
			split = append(split, list(key+":"+strconv.Itoa(n))...)
			for k := n; k > 0; k-- {
				want = append(want, list(key+":"+strconv.Itoa(k))...)
			}
		}
		j := good(split)
		j.Map = falls(api.Type)
		askSplit(t, "just as many", j, 0, want, api.Fine)
		for i, n := range counts {
			j.Splits[0] = slices.Clone(split)
			j.Splits[0][i].Value = strconv.Itoa(n + 1)
			askSplit(t, "one more", j, 0, nil, api.Many)
			j.Combine = count()
			askSplit(t, "one more, of which the Combine would tell few", j, 0, nil, api.Many)
			j.Combine = ends(api.Under, 0)
			askSplit(t, "one more, and the Combine's reason", j, 0, nil, api.Many)
			j.Combine = nil
		}
	}
	full := slices.Repeat(list("a:40"), maxRecords)
	j := good(full)
	j.Map = falls(api.Type)
	askSplit(t, "all records as many as may be", j, 0, nil, api.Many)
}

func TestARunsOwnReasonAheadOfMany(t *testing.T) {
	for _, reason := range ofRuns() {
		for _, split := range [][]api.Pair{
			list("a:40", "a:40", "z:0"),
			list("a:40", "z:1"),
			list("a:40", "z:40"),
			list("z:0", "a:40", "a:40"),
			list("a:40", "z:0", "a:40"),
			list("a:40", "a:40", "a:40", "a:40", "a:40", "a:40", "a:40", "z:40"),
		} {
			j := good(split)
			j.Map = falls(reason)
			askSplit(t, "reason "+strconv.Itoa(reason), j, 0, nil, reason)
		}
		// Of two runs' own reasons, one of them Many, the first one.
		for _, x := range []struct {
			split []api.Pair
			want  int
		}{{list("a:41", "z:0"), api.Many}, {list("z:0", "a:41"), reason}, {list("a:30", "a:30", "a:41", "z:0"), api.Many}} {
			j := good(x.split)
			j.Map = falls(reason)
			askSplit(t, "Many and reason "+strconv.Itoa(reason), j, 0, nil, x.want)
		}
	}
}

func TestCombines(t *testing.T) {
	records := list("b:1", "c:7", "a:2", "b:0", "c:7")
	sorted := list("a:2", "b:1", "b:0", "c:7", "c:7")
	for _, x := range []struct {
		what    string
		combine []api.Ins
		want    []api.Pair
		reason  int
	}{
		{"no instruction", nil, sorted, api.Fine},
		{"no instruction (empty)", []api.Ins{}, sorted, api.Fine},
		{"each value as it is", each(), sorted, api.Fine},
		{"the first one", first(), list("a:2", "b:1", "c:7"), api.Fine},
		{"how many", count(), list("a:1", "b:2", "c:2"), api.Fine},
		{"all in one", joined(), list("a:2", "b:10", "c:77"), api.Fine},
		{"more than there are", falls(api.Type), list("a:2", "a:1", "b:1", "c:7", "c:6", "c:5", "c:4", "c:3", "c:2", "c:1"), api.Fine},
		{"nothing", silent(), nil, api.Fine},
		{"another key", other(), nil, api.BadKey},
		{"a key that another record has", []api.Ins{{Op: api.OpBytes, S: "a"}, {Op: api.OpDup}, {Op: api.OpEmit}}, nil, api.BadKey},
	} {
		j := good(list("x:1"), records)
		j.Map, j.Combine = first(), x.combine
		askSplit(t, x.what, j, 1, x.want, x.reason)
	}
	for _, reason := range ofRuns() {
		j := good(records, list("z:2", "a:1"), list("a:1", "b:1"))
		j.Combine = falls(reason)
		what := "a Combine's reason " + strconv.Itoa(reason)
		askSplit(t, what, j, 1, nil, reason)
		askSplit(t, what, j, 2, list("a:1", "b:1"), api.Fine)
		j.Splits[1] = nil
		askSplit(t, what+", no record", j, 1, nil, api.Fine)
	}
	j := good(list("a:30", "b:11"))
	j.Combine = falls(api.Type)
	askSplit(t, "a Combine that tells too many", j, 0, nil, api.Many)
	j.Splits[0] = list("a:30", "b:10")
	if got, why := Split(j, 0); len(got) != maxPairs || why != api.Fine {
		t.Errorf("P13.1: a Combine that tells as many as may be: %d pairs, %d", len(got), why)
	}
}

func TestACombineHasTheJobsFuel(t *testing.T) {
	j := good(list("a:1", "b:1", "b:2", "b:3", "c:1"))
	j.Map, j.Combine = first(), count()
	need := vm.Steps(count(), "b", []string{"1", "2", "3"}, maxFuel)
	j.Fuel = need
	askSplit(t, "just enough", j, 0, list("a:1", "b:3", "c:1"), api.Fine)
	j.Fuel = need - 1
	askSplit(t, "one too few", j, 0, nil, api.Fuel)
}

func TestACombineRunsOnWhatTheMapTold(t *testing.T) {
	j := good(list("b:2", "a:1", "b:1"))
	j.Map, j.Combine = other(), count()
	askSplit(t, "the Map's keys", j, 0, list("other:3"), api.Fine)
	j.Map, j.Combine = falls(api.Type), joined()
	askSplit(t, "the Map's values", j, 0, list("a:1", "b:211"), api.Fine)
	j.Map, j.Combine = silent(), ends(api.Under, 0)
	askSplit(t, "nothing was told", j, 0, nil, api.Fine)
}

func TestNoSuchSplit(t *testing.T) {
	for n := 1; n <= maxSplits; n++ {
		j := good(slices.Repeat([][]api.Pair{list("a:1")}, n)...)
		askSplit(t, "the last", j, n-1, list("a:1"), api.Fine)
		for _, s := range append([]int{n, n + 1, -n}, outside...) {
			askSplit(t, "none", j, s, nil, api.Type)
			for _, p := range []int{0, 1, 2, -1, 99} {
				askRun(t, "none", j, s, p, nil, api.Type)
			}
		}
	}
}

func TestRun(t *testing.T) {
	records := list("d:1", "a:2", "c:3", "b:4", "d:0", "e:5", ":6", "\xff:7")
	for parts := 1; parts <= maxParts; parts++ {
		j := good(list("a:0"), records)
		j.Parts = parts
		told := 0
		for p := range parts {
			want := pair.Sort(slices.DeleteFunc(slices.Clone(records), func(x api.Pair) bool { return part.Of(x.Key, parts) != p }))
			askRun(t, strconv.Itoa(parts)+" parts", j, 1, p, want, api.Fine)
			told += len(want)
		}
		if told != len(records) {
			t.Errorf("P8.2: %d pairs of %d are a part's", told, len(records))
		}
		for _, p := range append([]int{parts, parts + 1, -parts}, outside...) {
			askRun(t, "no such part of "+strconv.Itoa(parts), j, 1, p, nil, api.Fine)
		}
	}
	j := good(records)
	j.Parts = 4
	// The keys' numbers: 7 of none, 314 to 318 of a to e, 7*31 + 255 of the last.
	for p, want := range [][]api.Pair{list("c:3", "\xff:7"), list("d:1", "d:0"), list("a:2", "e:5"), list(":6", "b:4")} {
		askRun(t, "four parts", j, 0, p, want, api.Fine)
	}
}

func TestRunIsOfWhatWasCombined(t *testing.T) {
	j := good(list("b:1", "a:2", "b:3"))
	j.Combine = joined()
	askRun(t, "part 0", j, 0, 0, list("a:2"), api.Fine)
	askRun(t, "part 1", j, 0, 1, list("b:13"), api.Fine)
	j.Reduce = ends(api.Under, 0)
	askRun(t, "a Reduce has no say", j, 0, 1, list("b:13"), api.Fine)
}

func TestRunOfASplitThatHasAReason(t *testing.T) {
	for _, reason := range ofRuns() {
		j := reasoned(api.Fine, reason)
		for _, p := range append([]int{0, 1, 2}, outside...) {
			askRun(t, "the split's reason", j, 1, p, nil, reason)
		}
		askRun(t, "the split ahead", j, 0, 0, list("a:0"), api.Fine)
		askRun(t, "the split ahead, no such part", j, 0, 2, nil, api.Fine)
	}
	j := good(list("a:1"))
	j.Combine = other()
	askRun(t, "a Combine's", j, 0, 0, nil, api.BadKey)
	askRun(t, "a Combine's, no such part", j, 0, -1, nil, api.BadKey)
}
