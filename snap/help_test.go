package snap

import (
	"fmt"
	"math"
	"slices"
	"strconv"
	"strings"
	"testing"

	"staithe/api"
)

// The bounds, written out apart from package api: one that is taken by a wrong
// name is seen.
const (
	mostPairs = 40
	mostIns   = 40
	mostKey   = 16
	mostBytes = 64
	mostFuel  = 2000
)

// edges are numbers at the edges of their type, and some that only by their low
// bits are small; they rise.
func edges() []int {
	return []int{
		math.MinInt, math.MinInt + 1, math.MinInt + 2, math.MinInt32 - 1, math.MinInt32, math.MinInt32 + 1, -1 << 16, -65535, -256, -255, -1, 0, 1, 2,
		255, 256, 257, 258, 1 << 16, 1<<16 + 2, math.MaxInt32, math.MaxInt32 + 1, math.MaxUint32, math.MaxUint32 + 1, math.MaxUint32 + 3, 1 << 40, 1 << 62, math.MaxInt - 1, math.MaxInt,
	}
}

// list answers pairs of words, each a key, a colon and a value.
func list(words ...string) []api.Pair {
	var ps []api.Pair
	for _, w := range words {
		key, value, _ := strings.Cut(w, ":")
		ps = append(ps, api.Pair{Key: key, Value: value})
	}
	return ps
}

// keyed answers n pairs of rising keys, each of which begins with name.
func keyed(name string, n int) []api.Pair {
	var ps []api.Pair
	for i := range n {
		ps = append(ps, api.Pair{Key: name + strconv.Itoa(1000+i), Value: strconv.Itoa(i)})
	}
	return ps
}

// each tells all of a key's values, with the key: of n values in 7*n+3
// instructions.
func each() []api.Ins {
	return []api.Ins{{Op: api.OpNext}, {Op: api.OpIf, A: 3}, {Op: api.OpHalt}, {Op: api.OpStore}, {Op: api.OpKey}, {Op: api.OpLoad}, {Op: api.OpEmit}, {Op: api.OpJump}}
}

// first tells a key's first value, with the key, in 4 instructions.
func first() []api.Ins {
	return []api.Ins{{Op: api.OpKey}, {Op: api.OpNext}, {Op: api.OpDrop}, {Op: api.OpEmit}}
}

// other tells a key's first value with the key "other".
func other() []api.Ins {
	return []api.Ins{{Op: api.OpBytes, S: "other"}, {Op: api.OpNext}, {Op: api.OpDrop}, {Op: api.OpEmit}}
}

// reasons are those that a run may end for, apart from api.Fine.
func reasons() []int { return []int{api.Under, api.Type, api.Fuel, api.Big, api.Many} }

// ends are instructions that, from place at on and with nothing on the stack,
// end a run for that reason.
func ends(reason, at int) []api.Ins {
	switch reason {
	case api.Under:
		return []api.Ins{{Op: api.OpDrop}}
	case api.Type:
		return []api.Ins{{Op: api.OpInt}, {Op: api.OpLen}}
	case api.Fuel:
		return []api.Ins{{Op: api.OpJump, A: at}}
	case api.Big:
		return []api.Ins{{Op: api.OpBytes, S: strings.Repeat("b", mostBytes)}, {Op: api.OpDup}, {Op: api.OpCat}}
	}
	return []api.Ins{{Op: api.OpKey}, {Op: api.OpDup}, {Op: api.OpEmit}, {Op: api.OpJump, A: at}}
}

// turns tells all of a key's values with the key; of the key "y" it ends for
// the one reason, of the key "z" for the other.
func turns(y, z int) []api.Ins {
	endOfY := ends(y, 16)
	p := []api.Ins{
		{Op: api.OpKey}, {Op: api.OpBytes, S: "y"}, {Op: api.OpEq}, {Op: api.OpIf, A: 16},
		{Op: api.OpKey}, {Op: api.OpBytes, S: "z"}, {Op: api.OpEq}, {Op: api.OpIf, A: 16 + len(endOfY)},
		{Op: api.OpNext}, {Op: api.OpIf, A: 11}, {Op: api.OpHalt}, {Op: api.OpStore}, {Op: api.OpKey}, {Op: api.OpLoad}, {Op: api.OpEmit}, {Op: api.OpJump, A: 8},
	}
	p = append(p, endOfY...)
	return append(p, ends(z, len(p))...)
}

// wrong tells what is wrong; of one test just the first such thing.
func wrong(t *testing.T, form string, all ...any) {
	t.Helper()
	if !t.Failed() {
		t.Errorf(form, all...)
	}
}

// brief answers the beginning of what ps is.
func brief(ps []api.Pair) string {
	return fmt.Sprintf("%d pairs, %q", len(ps), ps[:min(len(ps), 9)])
}

// askMarks holds Due and Reached against what they are to answer.
func askMarks(t *testing.T, marks []int, n int, due bool, reached int) {
	t.Helper()
	if got := Due(marks, n); got != due {
		wrong(t, "P20.1: Due(%v, %d): %t", marks, n, got)
	}
	if got := Reached(marks, n); got != reached {
		wrong(t, "P20.1: Reached(%v, %d): %d, not %d", marks, n, got, reached)
	}
}

// askGrows holds Grows against what it is to answer.
func askGrows(t *testing.T, a, b []int, want bool) {
	t.Helper()
	if got := Grows(a, b); got != want {
		wrong(t, "P20.1: Grows(%v, %v): %t", a, b, got)
	}
}

// askOf holds Of against what it is to answer.
func askOf(t *testing.T, p []api.Ins, fuel int, runs [][]api.Pair, want []api.Pair, reason int) {
	t.Helper()
	got, why := Of(p, fuel, runs...)
	if !slices.Equal(got, want) || why != reason {
		wrong(t, "P20.1: Of %d runs, fuel %d: %s, %d, not %s, %d", len(runs), fuel, brief(got), why, brief(want), reason)
	}
}
