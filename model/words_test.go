package model

import (
	"math/rand"
	"slices"
	"sort"
	"strconv"
	"testing"

	"staithe/api"
	"staithe/job"
	"staithe/vm"
)

// The model once more, by the chapter's words alone: every run is done ahead of
// asking what went wrong, and of the layers only vm is called.

// foldByWords runs p on each key's values, keys rising.
func foldByWords(p []api.Ins, ps []api.Pair, fuel int, own bool) ([]api.Pair, int) {
	var keys []string
	for _, x := range ps {
		if !slices.Contains(keys, x.Key) {
			keys = append(keys, x.Key)
		}
	}
	sort.Strings(keys)
	var all []api.Pair
	reason := api.Fine
	for _, key := range keys {
		var values []string
		for _, x := range ps {
			if x.Key == key {
				values = append(values, x.Value)
			}
		}
		told, why := vm.Run(p, key, values, fuel)
		for _, x := range told {
			if own && x.Key != key {
				why = api.BadKey
			}
		}
		if reason == api.Fine {
			reason = why
		}
		all = append(all, told...)
	}
	return endByWords(all, reason)
}

// endByWords answers all or the reason; too many are one, if there is no other.
func endByWords(all []api.Pair, reason int) ([]api.Pair, int) {
	if reason == api.Fine && len(all) > maxPairs {
		reason = api.Many
	}
	if reason != api.Fine {
		return nil, reason
	}
	return all, api.Fine
}

func splitByWords(j api.Job, s int) ([]api.Pair, int) {
	if s < 0 || s >= len(j.Splits) {
		return nil, api.Type
	}
	var all []api.Pair
	reason := api.Fine
	for _, record := range j.Splits[s] {
		told, why := vm.Run(j.Map, record.Key, []string{record.Value}, j.Fuel)
		if reason == api.Fine {
			reason = why
		}
		all = append(all, told...)
	}
	all, reason = endByWords(all, reason)
	if reason != api.Fine {
		return nil, reason
	}
	if len(j.Combine) == 0 {
		sort.SliceStable(all, func(a, b int) bool { return all[a].Key < all[b].Key })
		return all, api.Fine
	}
	return foldByWords(j.Combine, all, j.Fuel, true)
}

// ofPart answers those of ps that are part p's, by numbers that never go round
// but by 2^32.
func ofPart(ps []api.Pair, parts, p int) []api.Pair {
	var only []api.Pair
	for _, x := range ps {
		number := int64(7)
		for _, b := range []byte(x.Key) {
			number = (31*number + int64(b)) % (1 << 32)
		}
		if number%int64(parts) == int64(p) {
			only = append(only, x)
		}
	}
	return only
}

func runByWords(j api.Job, s, p int) ([]api.Pair, int) {
	all, why := splitByWords(j, s)
	return ofPart(all, j.Parts, p), why
}

func partByWords(j api.Job, p int, set []int) ([]api.Pair, int) {
	if p < 0 || p >= j.Parts {
		return nil, api.Type
	}
	var all []api.Pair
	for s := range j.Splits {
		if !slices.Contains(set, s) {
			continue
		}
		run, why := runByWords(j, s, p)
		if why != api.Fine {
			return nil, why
		}
		all = append(all, run...)
	}
	return foldByWords(j.Reduce, all, j.Fuel, false)
}

func wholeByWords(j api.Job) (all [][]api.Pair, why, at int) {
	var set []int
	for s := range j.Splits {
		set = append(set, s)
		if _, why := splitByWords(j, s); why != api.Fine {
			return nil, why, s
		}
	}
	for p := range j.Parts {
		part, why := partByWords(j, p, set)
		if why != api.Fine {
			return nil, why, p
		}
		all = append(all, part)
	}
	return all, api.Fine, 0
}

func allowsByWords(j api.Job, reason, at int, reduce bool) bool {
	if reason == api.Fine || at < 0 {
		return false
	}
	var set []int
	for s := range j.Splits {
		set = append(set, s)
		_, why := splitByWords(j, s)
		if !reduce && s == at {
			return why == reason
		}
		if reduce && why != api.Fine {
			return false
		}
	}
	if !reduce || at >= j.Parts {
		return false
	}
	_, why := partByWords(j, at, set)
	return why == reason
}

// drawn answers a job that may be.
func drawn(r *rand.Rand) api.Job {
	program := func(more ...[]api.Ins) []api.Ins {
		all := append(more, each(), each(), acts(), first(), count(), joined(), falls(1+r.Intn(5)))
		return all[r.Intn(len(all))]
	}
	j := api.Job{
		Parts: 1 + r.Intn(maxParts), Map: program(silent(), other()), Combine: program(nil, nil, nil, other()), Reduce: program(acts(), other()),
		Chunk: 1 + r.Intn(7), Window: 1 + r.Intn(4), Fuel: []int{maxFuel, maxFuel, maxFuel, 100, 1 + r.Intn(300)}[r.Intn(5)],
	}
	// In some jobs no value ends a run otherwise than well, or few pairs come of all.
	odd, great := r.Intn(3), r.Intn(4)
	for range 1 + r.Intn(maxSplits) {
		var split []api.Pair
		for range r.Intn(maxRecords + 1) {
			value := strconv.Itoa(r.Intn(4 + 5*great))
			if r.Intn(40) < odd {
				value = string("utfbm"[r.Intn(5)])
			}
			split = append(split, api.Pair{Key: []string{"", "a", "b", "c", "d", "z", "other", "\xff"}[r.Intn(4+r.Intn(5))], Value: value})
		}
		j.Splits = append(j.Splits, split)
	}
	return j
}

// drawnSet answers numbers of splits and of none, in no order.
func drawnSet(r *rand.Rand, splits int) []int {
	var set []int
	for range r.Intn(10) {
		set = append(set, r.Intn(splits+4)-2)
	}
	return set
}

func TestAsTheWordsGo(t *testing.T) {
	r := rand.New(rand.NewSource(13))
	var ofSplits, ofParts, ofWholes [api.BadKey + 1]int
	for range 3000 {
		j := drawn(r)
		if !job.May(j) {
			t.Fatalf("P12.1: what was drawn may not be: %v", j)
		}
		for s := -1; s <= len(j.Splits); s++ {
			want, why := splitByWords(j, s)
			askSplit(t, "drawn", j, s, want, why)
			ofSplits[why]++
			for p := -1; p <= j.Parts; p++ {
				want, why = runByWords(j, s, p)
				askRun(t, "drawn", j, s, p, want, why)
			}
		}
		for p := -1; p <= j.Parts; p++ {
			set := drawnSet(r, len(j.Splits))
			want, why := partByWords(j, p, set)
			askPart(t, "drawn", j, p, set, want, why)
			ofParts[why]++
		}
		want, why, at := wholeByWords(j)
		askWhole(t, "drawn", j, want, why, at)
		ofWholes[why]++
		for reason := range api.BadKey + 1 {
			n := r.Intn(maxSplits+3) - 1
			askAllows(t, "drawn", j, reason, n, false, allowsByWords(j, reason, n, false))
			askAllows(t, "drawn", j, reason, n, true, allowsByWords(j, reason, n, true))
		}
		if t.Failed() {
			t.Fatalf("the job: %v", j)
		}
	}
	for _, counts := range [][7]int{ofSplits, ofParts, ofWholes} {
		if slices.Min(counts[:]) < 20 {
			t.Errorf("what was drawn is too much alike: %v", counts)
		}
	}
}
