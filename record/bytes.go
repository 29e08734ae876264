package record

import (
	"staithe/api"
	"staithe/code"
)

// maxSet is how many numbers the Set of any record may have: a winner's are
// by parts, a snapshot's are splits.
const maxSet = max(api.MaxParts, api.MaxSplits)

// layOne answers the bytes of r.
func layOne(r api.Record) []byte {
	var body []byte
	for _, n := range [...]int{r.Kind, r.Part, r.Split, r.Attempt, r.Reason, len(r.Set)} {
		body = layNum(body, n)
	}
	for _, n := range r.Set {
		body = layNum(body, n)
	}
	body = layNum(body, len(r.Pairs))
	for _, p := range r.Pairs {
		body = layText(layText(body, p.Key), p.Value)
	}
	return append(code.Num(nil, len(body)), body...)
}

// layNum appends n to b, which is this package's own. To hand b itself to
// code.Num would copy all of it for each number.
func layNum(b []byte, n int) []byte { return append(b, code.Num(nil, n)...) }

// layText appends s to b, which is this package's own.
func layText(b []byte, s string) []byte { return append(b, code.Text(nil, s)...) }

// readOne answers the record that is laid at at, and the place behind it;
// false, if none is there that is whole, may be, and is laid as layOne lays it.
func readOne(b []byte, at int) (api.Record, int, bool) {
	size, from, ok := code.ReadNum(b, at)
	// The bound is what there is less where it begins, since a sum could go round.
	if !ok || size < 0 || size > len(b)-from {
		return api.Record{}, 0, false
	}
	end := from + size
	x := reader{b: b[:end], at: from, ok: true}
	r := x.record()
	if !x.ok || x.at != end || !May(r) {
		return api.Record{}, 0, false
	}
	return r, end, true
}

// reader goes through bytes from at on; as soon as something is not laid there
// ok is false, and stays so.
type reader struct {
	b  []byte
	at int
	ok bool
}

// record reads the fields of a record, in the order in which layOne lays them.
func (x *reader) record() api.Record {
	r := api.Record{Kind: x.num(), Part: x.num(), Split: x.num(), Attempt: x.num(), Reason: x.num()}
	for range x.count(maxSet) {
		r.Set = append(r.Set, x.num())
	}
	for range x.count(api.MaxPairs) {
		r.Pairs = append(r.Pairs, api.Pair{Key: x.text(), Value: x.text()})
	}
	return r
}

// count reads how many of something there are; 0, if not from 0 to most.
func (x *reader) count(most int) int {
	n := x.num()
	if !within(n, 0, most) {
		x.ok = false
		return 0
	}
	return n
}

func (x *reader) num() int {
	n, end, ok := code.ReadNum(x.b, x.at)
	x.move(end, ok)
	return n
}

func (x *reader) text() string {
	s, end, ok := code.ReadText(x.b, x.at)
	x.move(end, ok)
	return s
}

// move goes on at end, if what was to be read was there.
func (x *reader) move(end int, ok bool) {
	if !ok {
		x.ok = false
		return
	}
	x.at = end
}
