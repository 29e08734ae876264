package model

import (
	"staithe/api"
	"staithe/fold"
	"staithe/job"
	"staithe/merge"
	"staithe/part"
	"staithe/vm"
)

// outputs are those of a job that may be, for the time of one call.
type outputs struct {
	job    api.Job
	splits []*cell
	parts  []*cell // each one's for all splits
}

// outputsOf answers the outputs of j, and whether j may be.
func outputsOf(j api.Job) (*outputs, bool) {
	if !job.May(j) {
		return nil, false
	}
	o := &outputs{job: j}
	o.splits = newCells(len(j.Splits), o.makeSplit)
	o.parts = newCells(j.Parts, o.makePart)
	return o, true
}

// hasSplit answers whether there is a split s.
func (o *outputs) hasSplit(s int) bool { return s >= 0 && s < len(o.splits) }

// hasPart answers whether there is a part p.
func (o *outputs) hasPart(p int) bool { return p >= 0 && p < len(o.parts) }

// split answers the output of split s; none and api.Type, if there is none.
func (o *outputs) split(s int) output {
	if !o.hasSplit(s) {
		return output{why: api.Type}
	}
	return o.splits[s].get()
}

// run answers what of split s's output is part p's.
func (o *outputs) run(s, p int) output {
	of := o.split(s)
	if of.why != api.Fine {
		return of
	}
	return output{pairs: part.Only(of.pairs, o.job.Parts, p)}
}

// reduced answers the output of part p for the splits that in says, rising.
func (o *outputs) reduced(p int, in func(s int) bool) output {
	var runs [][]api.Pair
	for s := range o.splits {
		if !in(s) {
			continue
		}
		run := o.run(s, p)
		if run.why != api.Fine {
			return run
		}
		runs = append(runs, run.pairs)
	}
	told, why := fold.Each(o.job.Reduce, merge.Runs(runs...), o.job.Fuel)
	return output{pairs: told, why: why}
}

// among answers whether a split is one of set.
func (o *outputs) among(set []int) func(s int) bool {
	// A set may be far longer than there are splits: it is gone through once.
	in := make([]bool, len(o.splits))
	for _, s := range set {
		if o.hasSplit(s) {
			in[s] = true
		}
	}
	return func(s int) bool { return in[s] }
}

func (o *outputs) makeSplit(s int) output {
	var all []api.Pair
	for _, record := range o.job.Splits[s] {
		told, why := vm.Run(o.job.Map, record.Key, []string{record.Value}, o.job.Fuel)
		if why != api.Fine {
			return output{why: why}
		}
		all = append(all, told...)
	}
	// Behind all runs: a later one's own reason goes ahead of api.Many.
	if len(all) > api.MaxPairs {
		return output{why: api.Many}
	}
	told, why := fold.Combine(o.job.Combine, all, o.job.Fuel)
	return output{pairs: told, why: why}
}

func (o *outputs) makePart(p int) output { return o.reduced(p, everySplit) }

func everySplit(int) bool { return true }
