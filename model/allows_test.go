package model

import (
	"strconv"
	"testing"

	"staithe/api"
)

// everyReason are all reasons, and numbers that are none.
func everyReason() []int {
	return append([]int{api.Fine, api.Under, api.Type, api.Fuel, api.Big, api.Many, api.BadKey}, outside...)
}

// askOnly asks every reason at every place, with reduce and without: splits
// and parts say what is allowed there, api.Fine that nothing is.
func askOnly(t *testing.T, what string, j api.Job, splits, parts []int) {
	t.Helper()
	for _, reason := range everyReason() {
		for at := -3; at < 12; at++ {
			for _, reduce := range []bool{false, true} {
				of := splits
				if reduce {
					of = parts
				}
				want := at >= 0 && at < len(of) && of[at] == reason && reason != api.Fine
				askAllows(t, what, j, reason, at, reduce, want)
			}
		}
		for _, at := range outside {
			askAllows(t, what, j, reason, at, false, false)
			askAllows(t, what, j, reason, at, true, false)
		}
	}
}

func TestAllowsOfSplits(t *testing.T) {
	for _, one := range ofRuns() {
		for n := 1; n <= maxSplits; n++ {
			for at := range n {
				reasons := make([]int, n)
				reasons[at] = one
				askOnly(t, "one split", reasoned(reasons...), reasons, nil)
			}
		}
		for _, another := range ofRuns() {
			reasons := []int{api.Fine, one, api.Fine, another}
			askOnly(t, "two splits", reasoned(reasons...), reasons, nil)
		}
	}
	j := good(nil, list("a:1"), nil, list("b:1"))
	j.Combine = other()
	askOnly(t, "a Combine's", j, []int{0, api.BadKey, 0, api.BadKey}, nil)
	j = good(list("a:40", "a:1"), list("a:40"))
	j.Map = falls(api.Type)
	askOnly(t, "too many", j, []int{api.Many, api.Fine}, nil)
}

func TestAllowsOfParts(t *testing.T) {
	keys := []string{"c", "d", "a", "b"}
	for _, one := range ofRuns() {
		for at := range keys {
			j := good(list("c:1", "d:1", "a:1", "b:1"), list(keys[at]+":"+word(one)))
			j.Reduce, j.Parts = acts(), 4
			parts := make([]int, 4)
			parts[at] = one
			askOnly(t, "one part", j, nil, parts)
			for _, another := range ofRuns() {
				later := (at + 1) % 4
				parts[later] = another
				j.Splits = append(j.Splits[:2:2], list(keys[later]+":"+word(another)))
				askOnly(t, "two parts", j, nil, parts)
			}
		}
	}
	j := good(list("a:1"), list("b:1"))
	for _, reason := range ofRuns() {
		j.Reduce = ends(reason, 0)
		askOnly(t, "all parts", j, nil, []int{reason, reason})
		j.Splits = append(j.Splits[:1:1], nil)
		askOnly(t, "the part that has pairs", j, nil, []int{reason, 0})
		j.Splits[1] = list("b:1")
	}
}

func TestAllowsOfPartsWhereASplitHasAReason(t *testing.T) {
	for _, reason := range ofRuns() {
		for _, ofPart := range ofRuns() {
			for at := range 3 {
				reasons := make([]int, 3)
				reasons[at] = reason
				j := reasoned(reasons...)
				j.Reduce = ends(ofPart, 0)
				askOnly(t, "a split's and all parts'", j, reasons, nil)
			}
		}
	}
}

// TestAllowsIsOfAllSplits has a part that has a reason for some splits alone.
func TestAllowsIsOfAllSplits(t *testing.T) {
	j := good(list("a:1"), list("a:2"))
	// Ends by Under of one value, tells the second one of two.
	j.Reduce = []api.Ins{{Op: api.OpNext}, {Op: api.OpDrop}, {Op: api.OpDrop}, {Op: api.OpKey}, {Op: api.OpNext}, {Op: api.OpDrop}, {Op: api.OpEmit}}
	askPart(t, "both", j, 0, []int{0, 1}, list("a:2"), api.Fine)
	askOnly(t, "both", j, nil, nil)
	askPart(t, "the first alone", j, 0, []int{0}, nil, api.Under)
	askPart(t, "the second alone", j, 0, []int{1}, nil, api.Under)
}

// TestAJobThatWholeTellsOfAllowsNone is P13.3, with Type above all: no such
// split and no such part are told by it elsewhere.
func TestAJobThatWholeTellsOfAllowsNone(t *testing.T) {
	for parts := 1; parts <= maxParts; parts++ {
		for splits := 1; splits <= maxSplits; splits++ {
			j := reasoned(make([]int, splits)...)
			j.Parts = parts
			if _, why, at := Whole(j); why != api.Fine || at != 0 {
				t.Errorf("P13.2: Whole: %d, %d", why, at)
			}
			askOnly(t, "P13.3: "+strconv.Itoa(splits)+" splits, "+strconv.Itoa(parts)+" parts", j, nil, nil)
		}
	}
}

// TestWhatWholeTellsIsAllowed turns P13.3 round: where there is a reason, it is
// allowed where Whole says.
func TestWhatWholeTellsIsAllowed(t *testing.T) {
	split, part := reasoned(0, api.Big, api.Fuel), three()
	part.Reduce, part.Splits[1] = falls(api.Big), list("z:1")
	for _, x := range []struct {
		j      api.Job
		reduce bool
	}{{split, false}, {part, true}} {
		_, why, at := Whole(x.j)
		if why != api.Big || at != 1 {
			t.Errorf("P13.2: Whole: %d, %d", why, at)
		}
		askAllows(t, "what Whole tells", x.j, why, at, x.reduce, true)
		askAllows(t, "what Whole tells, the other way", x.j, why, at, !x.reduce, false)
	}
}
