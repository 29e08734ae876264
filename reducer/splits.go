package reducer

import (
	"staithe/api"
	"staithe/pair"
	"staithe/snap"
)

// set tells of each split whether it is in it.
type set [api.MaxSplits]bool

// result is what the reduce tells, or why it ends otherwise.
type result struct {
	pairs []api.Pair
	why   int
}

// has answers whether there is that split.
func (r *Reducer) has(split int) bool { return split >= 0 && split < r.count }

// whole answers whether all splits are merged.
func (r *Reducer) whole() bool { return len(r.Merged()) == r.count }

// merge takes in that split comes to ps, which nobody else holds.
func (r *Reducer) merge(split int, ps []api.Pair) {
	r.splits[split].merged, r.splits[split].pairs = true, ps
}

// wanted answers which chunk of that attempt is wanted next.
func (r *Reducer) wanted(split, attempt int) int {
	if r.splits[split].merged {
		return api.MaxPairs
	}
	return r.stage.Next(split, attempt)
}

// mergedOf answers which of those splits are merged; a number that is no split
// is none of them.
func (r *Reducer) mergedOf(splits []int) set {
	var in set
	for _, at := range splits {
		if r.has(at) && r.splits[at].merged {
			in[at] = true
		}
	}
	return in
}

// reduced answers what the reduce tells of those of splits that are merged.
func (r *Reducer) reduced(splits []int) ([]api.Pair, int) {
	in := r.mergedOf(splits)
	known, ok := r.results[in]
	if !ok {
		known = r.reduceAll(in)
		// Not in New: so no reducer panics here, wherever it comes from.
		if r.results == nil {
			r.results = map[set]result{}
		}
		r.results[in] = known
	}
	return copied(known.pairs), known.why
}

// reduceAll runs the reduce on all keys of the splits of in, rising.
func (r *Reducer) reduceAll(in set) result {
	var runs [][]api.Pair
	for at, s := range r.splits {
		if in[at] {
			runs = append(runs, s.pairs)
		}
	}
	ps, why := snap.Of(r.reduce, r.fuel, runs...)
	return result{pairs: ps, why: why}
}

// mayChunk answers whether ps may be a chunk.
func mayChunk(ps []api.Pair) bool {
	// How many there are is asked first, so that no long list is gone through.
	return len(ps) <= api.MaxChunk && pair.May(ps)
}

// copied answers xs in memory of its own. Not slices.Clone: of a list that was
// cut to none it answers a piece of that list.
func copied[T any](xs []T) []T { return append([]T(nil), xs...) }
