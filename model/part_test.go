package model

import (
	"math"
	"slices"
	"strconv"
	"testing"

	"staithe/api"
	"staithe/vm"
)

// three answers a job of three splits whose keys "a" and "b" are parts 0 and 1.
func three() api.Job {
	return good(list("b:1", "a:2", "b:0"), list("a:7", "a:6"), list("b:9", "a:8"))
}

func TestPartOfSets(t *testing.T) {
	for _, x := range []struct {
		set   []int
		wantA []api.Pair
		wantB []api.Pair
	}{
		{nil, nil, nil},
		{[]int{}, nil, nil},
		{[]int{0}, list("a:2"), list("b:1", "b:0")},
		{[]int{1}, list("a:7", "a:6"), nil},
		{[]int{2}, list("a:8"), list("b:9")},
		{[]int{0, 1}, list("a:2", "a:7", "a:6"), list("b:1", "b:0")},
		{[]int{1, 2}, list("a:7", "a:6", "a:8"), list("b:9")},
		{[]int{0, 2}, list("a:2", "a:8"), list("b:1", "b:0", "b:9")},
		{[]int{2, 0}, list("a:2", "a:8"), list("b:1", "b:0", "b:9")},
		{[]int{0, 1, 2}, list("a:2", "a:7", "a:6", "a:8"), list("b:1", "b:0", "b:9")},
		{[]int{2, 1, 0}, list("a:2", "a:7", "a:6", "a:8"), list("b:1", "b:0", "b:9")},
		{[]int{1, 2, 0}, list("a:2", "a:7", "a:6", "a:8"), list("b:1", "b:0", "b:9")},
		{[]int{1, 1}, list("a:7", "a:6"), nil},
		{[]int{2, 0, 2, 0, 0}, list("a:2", "a:8"), list("b:1", "b:0", "b:9")},
		{[]int{-1}, nil, nil},
		{[]int{3}, nil, nil},
		{[]int{3, 4, 5, 6, 99, -1, -2, -3}, nil, nil},
		{[]int{-1, 0, 3}, list("a:2"), list("b:1", "b:0")},
		{[]int{2, 0, 99, 0, -1}, list("a:2", "a:8"), list("b:1", "b:0", "b:9")},
		{[]int{math.MinInt, 1, math.MaxInt, 1 << 32, 1<<32 + 2}, list("a:7", "a:6"), nil},
		{outside, nil, nil},
	} {
		askPart(t, "keys a", three(), 0, x.set, x.wantA, api.Fine)
		askPart(t, "keys b", three(), 1, x.set, x.wantB, api.Fine)
	}
}

func TestPartReducesEachKeyOnce(t *testing.T) {
	j := three()
	j.Parts, j.Reduce = 1, joined()
	askPart(t, "all values of a key", j, 0, []int{2, 1, 0}, list("a:2768", "b:109"), api.Fine)
	askPart(t, "of two splits", j, 0, []int{2, 0}, list("a:28", "b:109"), api.Fine)
	j.Reduce = first()
	askPart(t, "the first split's first", j, 0, []int{2, 1, 0}, list("a:2", "b:1"), api.Fine)
	j.Reduce = other()
	askPart(t, "a Reduce may tell another key", j, 0, []int{0, 1, 2}, list("other:other", "other:other"), api.Fine)
	j.Reduce = silent()
	askPart(t, "a Reduce that tells nothing", j, 0, []int{0, 1, 2}, nil, api.Fine)
	j.Reduce, j.Combine = joined(), count()
	askPart(t, "of what each split's Combine told", j, 0, []int{0, 1, 2}, list("a:121", "b:21"), api.Fine)
}

func TestAReduceHasTheJobsFuel(t *testing.T) {
	j := three()
	j.Map, j.Reduce, j.Parts = first(), count(), 1
	need := vm.Steps(count(), "a", []string{"2", "7", "6", "8"}, maxFuel)
	j.Fuel = need
	askPart(t, "just enough", j, 0, []int{0, 1, 2}, list("a:4", "b:3"), api.Fine)
	j.Fuel = need - 1
	askPart(t, "one too few", j, 0, []int{0, 1, 2}, nil, api.Fuel)
	askPart(t, "enough for two splits", j, 0, []int{1, 2}, list("a:3", "b:1"), api.Fine)
}

func TestPartOfManyPairs(t *testing.T) {
	j := good(list("a:20"), list("a:20"), list("c:1"), list("b:40"))
	j.Map = falls(api.Type)
	if got, why := Part(j, 0, []int{0, 1, 3}); len(got) != maxPairs || why != api.Fine {
		t.Errorf("P13.1: as many as may be: %d pairs, %d", len(got), why)
	}
	askPart(t, "one more", j, 0, []int{0, 1, 2}, nil, api.Many)
	j.Reduce = count()
	askPart(t, "one more, of which Reduce tells few", j, 0, []int{0, 1, 2}, list("a:40", "c:1"), api.Fine)
	askPart(t, "the other part", j, 1, []int{0, 1, 2, 3}, list("b:40"), api.Fine)
}

func TestPartOfASplitThatHasAReason(t *testing.T) {
	for _, reason := range ofRuns() {
		j := reasoned(api.Fine, reason, api.Fine)
		for p := range 2 {
			for _, set := range [][]int{{1}, {0, 1}, {1, 0}, {1, 2}, {2, 1}, {0, 1, 2}, {2, 2, 1, 1, 99}} {
				askPart(t, "reason "+strconv.Itoa(reason), j, p, set, nil, reason)
			}
		}
		askPart(t, "without it", j, 0, []int{2, 0}, list("a:0", "a:2"), api.Fine)
		askPart(t, "without it", j, 1, []int{2, 0}, list("b:0", "b:2"), api.Fine)
		askPart(t, "without any", j, 1, nil, nil, api.Fine)
	}
	j := good(list("a:1"), nil, list("b:1"))
	j.Combine = other()
	askPart(t, "a Combine's", j, 0, []int{1, 2}, nil, api.BadKey)
	askPart(t, "no record", j, 0, []int{1}, nil, api.Fine)
}

func TestPartOfTwoSplitsThatHaveReasons(t *testing.T) {
	for _, one := range ofRuns() {
		for _, another := range ofRuns() {
			j := reasoned(api.Fine, one, api.Fine, another)
			for p := range 2 {
				askPart(t, "both", j, p, []int{1, 3}, nil, one)
				askPart(t, "both, all", j, p, []int{0, 1, 2, 3}, nil, one)
				// A set has no order of its own: the first one is the lesser split.
				askPart(t, "both, out of order", j, p, []int{3, 1}, nil, one)
				askPart(t, "both, out of order, again", j, p, []int{3, 0, 3, 1, 2}, nil, one)
				askPart(t, "the later one alone", j, p, []int{3, 2, 0}, nil, another)
			}
			j.Reduce = ends(api.Big, 0)
			askPart(t, "a split's ahead of the fold's", j, 0, []int{0, 3}, nil, another)
		}
	}
}

func TestPartOfAFoldThatHasAReason(t *testing.T) {
	for _, reason := range ofRuns() {
		j := good(list("a:1", "b:2"), list("z:1"), list("b:3"))
		j.Reduce = falls(reason)
		// The key "z" is part 1, as "b" is.
		what := "a Reduce's reason " + strconv.Itoa(reason)
		askPart(t, what, j, 1, []int{0, 1, 2}, nil, reason)
		askPart(t, what, j, 1, []int{1}, nil, reason)
		askPart(t, what, j, 1, []int{2, 0}, list("b:2", "b:1"), api.Fine)
		askPart(t, what, j, 0, []int{0, 1, 2}, list("a:1"), api.Fine)
		askPart(t, what, j, 1, nil, nil, api.Fine)
		j.Reduce = ends(reason, 0)
		askPart(t, what+" at once", j, 0, []int{0}, nil, reason)
		askPart(t, what+" at once, no pairs", j, 0, []int{1, 2}, nil, api.Fine)
	}
}

func TestNoSuchPart(t *testing.T) {
	for parts := 1; parts <= maxParts; parts++ {
		j := three()
		j.Parts = parts
		for _, p := range append([]int{parts, parts + 1, -parts}, outside...) {
			for _, set := range [][]int{nil, {0}, {0, 1, 2}, {99}} {
				askPart(t, "none of "+strconv.Itoa(parts), j, p, set, nil, api.Type)
			}
		}
	}
	j := reasoned(api.Fuel, api.Big)
	for _, p := range append([]int{2}, outside...) {
		askPart(t, "none, and a split's reason", j, p, []int{0, 1}, nil, api.Type)
	}
}

func TestWhole(t *testing.T) {
	askWhole(t, "two parts", three(), [][]api.Pair{list("a:2", "a:7", "a:6", "a:8"), list("b:1", "b:0", "b:9")}, api.Fine, 0)
	j := three()
	j.Parts, j.Reduce = 1, joined()
	askWhole(t, "one part", j, [][]api.Pair{list("a:2768", "b:109")}, api.Fine, 0)
	j.Parts = 4
	askWhole(t, "parts without pairs", j, [][]api.Pair{nil, nil, list("a:2768"), list("b:109")}, api.Fine, 0)
	j.Splits = [][]api.Pair{nil}
	askWhole(t, "no record", j, make([][]api.Pair, 4), api.Fine, 0)
	j.Splits = make([][]api.Pair, maxSplits)
	askWhole(t, "no record of six splits", j, make([][]api.Pair, 4), api.Fine, 0)
}

func TestWholeIsAllParts(t *testing.T) {
	for parts := 1; parts <= maxParts; parts++ {
		for splits := 1; splits <= maxSplits; splits++ {
			j := good()
			j.Parts, j.Reduce = parts, joined()
			var all []int
			for s := range splits {
				j.Splits = append(j.Splits, list("a:"+strconv.Itoa(s), "d:x", "c:"+strconv.Itoa(s), "b:y", "a:"+strconv.Itoa(s)))
				all = append(all, s)
			}
			var want [][]api.Pair
			for p := range parts {
				part, why := Part(j, p, all)
				if why != api.Fine {
					t.Errorf("P13.1: Part %d of all: %d", p, why)
				}
				want = append(want, part)
			}
			askWhole(t, strconv.Itoa(parts)+" parts", j, want, api.Fine, 0)
		}
	}
}

func TestWholeOfASplitThatHasAReason(t *testing.T) {
	for _, reason := range ofRuns() {
		for n := 1; n <= maxSplits; n++ {
			for at := range n {
				reasons := make([]int, n)
				reasons[at] = reason
				j := reasoned(reasons...)
				what := "reason " + strconv.Itoa(reason) + " of " + strconv.Itoa(n)
				askWhole(t, what, j, nil, reason, at)
				for _, another := range ofRuns() {
					later := slices.Clone(reasons)
					later[n-1] = another
					later[at] = reason
					askWhole(t, what+" and a later one", reasoned(later...), nil, reason, at)
					j.Reduce = ends(another, 0)
					askWhole(t, what+" and a part's", j, nil, reason, at)
				}
			}
		}
	}
	j := good(nil, list("a:1"), list("b:1"))
	j.Combine = other()
	askWhole(t, "a Combine's", j, nil, api.BadKey, 1)
}

func TestWholeOfAPartThatHasAReason(t *testing.T) {
	// Of four parts the keys c, d, a, b are parts 0, 1, 2, 3.
	keys := []string{"c", "d", "a", "b"}
	for _, reason := range ofRuns() {
		for at := range keys {
			j := reasoned(api.Fine, api.Fine)
			j.Map, j.Reduce, j.Parts = each(), acts(), 4
			j.Splits[1] = append(j.Splits[1], api.Pair{Key: keys[at], Value: word(reason)})
			askWhole(t, "a part's", j, nil, reason, at)
			for _, another := range ofRuns() {
				j.Splits[0] = list(keys[3] + ":" + word(another))
				if at == 3 {
					// Of one key the value of the earlier split is first.
					askWhole(t, "a part's, two values", j, nil, another, at)
				} else {
					askWhole(t, "a part's ahead of a later one", j, nil, reason, at)
				}
			}
		}
	}
	j := good(list("a:20"), list("a:20"), list("a:1"))
	j.Map = falls(api.Type)
	askWhole(t, "too many in part 0", j, nil, api.Many, 0)
	j.Splits = [][]api.Pair{list("b:20"), list("b:20"), list("b:1")}
	askWhole(t, "too many in part 1", j, nil, api.Many, 1)
}
