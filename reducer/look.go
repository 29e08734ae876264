package reducer

import (
	"staithe/api"
	"staithe/snap"
)

// heed takes in a record of the part.
func (r *Reducer) heed(x api.Record) {
	switch x.Kind {
	case api.RecMerged:
		if r.has(x.Split) && !r.splits[x.Split].merged {
			r.merge(x.Split, copied(x.Pairs))
		}
	case api.RecSnap:
		r.snaps = append(r.snaps, copied(x.Set))
	}
}

// look merges split, if it is known who won it and just the winner's chunks
// wait; it answers what is to be journaled.
func (r *Reducer) look(split int) []api.Record {
	s := r.splits[split]
	if s.winner == 0 {
		return nil
	}
	ps, all := r.stage.Take(split, s.winner, s.chunks)
	if !all || len(ps) > api.MaxPairs {
		return nil
	}
	r.merge(split, ps)
	r.stage.Drop(split)
	rs := []api.Record{{
		Kind: api.RecMerged, Part: r.part, Split: split, Attempt: s.winner, Pairs: copied(ps),
	}}
	return append(rs, r.publish()...)
}

// publish begins a snapshot of what is merged, if one is due; it answers what
// is to be journaled.
func (r *Reducer) publish() []api.Record {
	merged := r.Merged()
	if !snap.Due(r.marks, len(merged)) {
		return nil
	}
	r.snaps = append(r.snaps, merged)
	return []api.Record{{Kind: api.RecSnap, Part: r.part, Set: copied(merged)}}
}
