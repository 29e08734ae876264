package mapper

import (
	"staithe/api"
	"staithe/cut"
	"staithe/model"
	"staithe/part"
	"staithe/window"
)

// output is what an attempt comes to: api.Fine and a stream for each part, or
// the reason and none.
type output struct {
	why     int
	streams []stream
}

// stream is what is pushed for one part.
type stream struct {
	pairs []api.Pair
	size  int // pairs of a chunk
	open  *window.Window
}

// jobOf answers j with that split alone, in memory of its own.
func jobOf(j api.Job, split int) api.Job {
	j.Splits = [][]api.Pair{append([]api.Pair(nil), j.Splits[split]...)}
	j.Map = append([]api.Ins(nil), j.Map...)
	j.Combine = append([]api.Ins(nil), j.Combine...)
	// Nothing is reduced here, but the model takes no job without it.
	j.Reduce = append([]api.Ins(nil), j.Reduce...)
	// Marks are held against how many splits there are.
	j.Marks = nil
	return j
}

// outputOf answers the output of j's one split, in chunks of size pairs.
func outputOf(j api.Job, size int) output {
	// Once for all parts: model.Run would map the split anew for each.
	all, why := model.Split(j, 0)
	if why != api.Fine {
		return output{why: why}
	}
	var streams []stream
	for p := range j.Parts {
		streams = append(streams, streamOf(part.Only(all, j.Parts, p), size, j.Window))
	}
	return output{streams: streams}
}

// streamOf answers ps in chunks of size pairs, of which so many at most may be
// on their way.
func streamOf(ps []api.Pair, size, most int) stream {
	// It is always api.OK: a split has no more pairs than a window may count.
	open, _ := window.New(cut.Chunks(len(ps), size), most)
	return stream{pairs: ps, size: size, open: open}
}

// has answers whether there is a stream for that part.
func (o *output) has(part int) bool { return part >= 0 && part < len(o.streams) }

func (s stream) count() int { return cut.Chunks(len(s.pairs), s.size) }

func (s stream) chunk(seq int) []api.Pair { return cut.Chunk(s.pairs, s.size, seq) }
