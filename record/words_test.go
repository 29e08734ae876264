package record

import (
	"encoding/binary"
	"math/rand"
	"slices"
	"strings"
	"testing"

	"staithe/api"
)

// The calls once more, by the chapter's words alone.

// mayByWords answers whether r may be: all that it may have, by its kind.
func mayByWords(r api.Record) bool {
	from := func(n, least, most int) bool { return n >= least && n <= most }
	noLists := len(r.Set) == 0 && len(r.Pairs) == 0
	switch r.Kind {
	case won:
		for _, n := range r.Set {
			if !from(n, 0, maxPairs) {
				return false
			}
		}
		return r.Part == 0 && r.Reason == 0 && len(r.Pairs) == 0 && len(r.Set) <= parts && from(r.Split, 0, splits-1) && from(r.Attempt, 1, tries)
	case commit, life:
		return r.Part == 0 && r.Split == 0 && r.Attempt == 0 && r.Reason == 0 && noLists
	case over:
		split := r.Attempt == 0 && r.Part == 0 && from(r.Split, 0, splits-1)
		part := r.Attempt == 1 && r.Split == 0 && from(r.Part, 0, parts-1)
		return (split || part) && from(r.Reason, under, badKey) && noLists
	case merged:
		for _, p := range r.Pairs {
			if len(p.Key) > maxKey || len(p.Value) > maxValue {
				return false
			}
		}
		return from(r.Part, 0, parts-1) && from(r.Split, 0, splits-1) && from(r.Attempt, 1, tries) && r.Reason == 0 && len(r.Set) == 0 && len(r.Pairs) <= maxPairs
	case snap:
		for i, n := range r.Set {
			if !from(n, 0, splits-1) || i > 0 && r.Set[i-1] >= n {
				return false
			}
		}
		return from(r.Part, 0, parts-1) && r.Split == 0 && r.Attempt == 0 && r.Reason == 0 && len(r.Pairs) == 0
	}
	return false
}

// firstByWords answers the record that b begins with, and its bytes: what is
// taken off b is held against the same record laid again.
func firstByWords(b string) (api.Record, string, bool) {
	rest, ok := b, true
	number := func() int {
		if len(rest) < 8 {
			ok = false
			return 0
		}
		n := int(binary.BigEndian.Uint64([]byte(rest[:8])))
		rest = rest[8:]
		return n
	}
	text := func() string {
		n := number()
		if n < 0 || n > len(rest) {
			ok = false
			return ""
		}
		s := rest[:n]
		rest = rest[n:]
		return s
	}
	var r api.Record
	number()
	for _, at := range []*int{&r.Kind, &r.Part, &r.Split, &r.Attempt, &r.Reason} {
		*at = number()
	}
	for i := number(); i > 0 && ok; i-- {
		r.Set = append(r.Set, number())
	}
	for i := number(); i > 0 && ok; i-- {
		r.Pairs = append(r.Pairs, api.Pair{Key: text(), Value: text()})
	}
	laid := byHand(r)
	if !ok || !mayByWords(r) || !strings.HasPrefix(b, laid) {
		return api.Record{}, "", false
	}
	return r, laid, true
}

// readByWords answers the records that b begins with, and how many bytes these have.
func readByWords(b string) ([]api.Record, int) {
	r, laid, ok := firstByWords(b)
	if !ok {
		return nil, 0
	}
	rs, n := readByWords(b[len(laid):])
	return slices.Insert(rs, 0, r), len(laid) + n
}

// mayLaid answers whether b is the bytes of just one record that may be.
func mayLaid(b string) bool {
	_, laid, ok := firstByWords(b)
	return ok && laid == b
}

// drawnText answers some bytes, now and then of a length at most's edge.
func drawnText(r *rand.Rand, most int) string {
	n := r.Intn(4)
	switch r.Intn(12) {
	case 0:
		n = most
	case 1:
		n = most - 1 + r.Intn(3)
	}
	b := make([]byte, n)
	for i := range b {
		b[i] = byte(r.Intn(256))
	}
	return string(b)
}

// drawnRecord answers a record of small numbers, many of which are zero.
func drawnRecord(r *rand.Rand) api.Record {
	number := func(n int) int {
		if r.Intn(25) == 0 {
			return r.Intn(12) - 3
		}
		return r.Intn(n)
	}
	x := api.Record{Kind: number(7)}
	least := 1 - r.Intn(12)/11
	switch x.Kind {
	case won:
		x.Split, x.Attempt = number(splits), least+number(tries)
	case over:
		x.Attempt, x.Reason = number(2), least+number(6)
		if x.Attempt == 0 {
			x.Split = number(splits)
		} else {
			x.Part = number(parts)
		}
	case merged:
		x.Part, x.Split, x.Attempt = number(parts), number(splits), least+number(tries)
		for range number(6) - r.Intn(12)/11*r.Intn(2) {
			x.Pairs = append(x.Pairs, api.Pair{Key: drawnText(r, maxKey), Value: drawnText(r, maxValue)})
		}
	case snap:
		x.Part = number(parts)
		for n := number(3); n < 7 && len(x.Set) < 8; n += 1 + number(3) {
			x.Set = append(x.Set, n)
		}
	}
	if x.Kind == won {
		for range number(5) {
			x.Set = append(x.Set, number(41))
		}
	}
	if r.Intn(10) == 0 {
		all := []*int{&x.Part, &x.Split, &x.Attempt, &x.Reason}
		*all[r.Intn(4)] = number(5)
	}
	return x
}

// drawnBytes answers the bytes of drawn records, most times changed somewhere.
func drawnBytes(r *rand.Rand) string {
	b := ""
	for range r.Intn(6) {
		b += byHand(drawnRecord(r))
	}
	for range r.Intn(3) {
		if len(b) == 0 {
			break
		}
		at := r.Intn(len(b))
		switch r.Intn(4) {
		case 0:
			b = b[:at]
		case 1:
			b = b[:at] + string([]byte{byte(r.Intn(256))}) + b[at+1:]
		case 2:
			b = b[:at] + drawnText(r, 8) + b[at:]
		case 3:
			at -= at % 8
			if at+8 <= len(b) {
				b = withNumber(b, at, r.Intn(70)-3)
			}
		}
	}
	return b
}

func TestMayAndLayAsTheWordsGo(t *testing.T) {
	r := rand.New(rand.NewSource(15))
	var kinds [7]int
	var not int
	for range 30000 {
		x := drawnRecord(r)
		want := mayByWords(x)
		if got := May(x); got != want {
			t.Fatalf("P15.1: May(%+v): %t", x, got)
		}
		laid := ""
		if want {
			kinds[x.Kind]++
			laid = byHand(x)
		} else {
			not++
		}
		if got := string(Lay(x)); got != laid {
			t.Fatalf("P15.1: Lay(%+v): %v", x, []byte(got))
		}
	}
	for kind, n := range kinds[1:] {
		if n < 1000 {
			t.Errorf("what was drawn is too much alike: %d records of kind %d", n, kind+1)
		}
	}
	if not < 1000 {
		t.Errorf("what was drawn is too much alike: %d records that may not be", not)
	}
}

func TestReadAsTheWordsGo(t *testing.T) {
	r := rand.New(rand.NewSource(51))
	var whole, none, some int
	for range 40000 {
		b := drawnBytes(r)
		want, n := readByWords(b)
		rs, at := Read([]byte(b))
		if !alike(rs, want) || at != n || !Same(rs, want) {
			t.Fatalf("P15.1: Read(%v): %+v, %d, not %+v, %d", []byte(b), rs, at, want, n)
		}
		if got := string(Lay(rs...)); got != b[:at] {
			t.Fatalf("P15.1: what was read of %v is laid as %v", []byte(b), []byte(got))
		}
		switch {
		case n == len(b):
			whole++
		case n == 0:
			none++
		default:
			some++
		}
	}
	if min(whole, none, some) < 4000 {
		t.Errorf("what was drawn is too much alike: %d read to the end, %d not at all, %d to somewhere", whole, none, some)
	}
}

func TestSameAsTheWordsGo(t *testing.T) {
	r := rand.New(rand.NewSource(115))
	drawn := func() []api.Record {
		var rs []api.Record
		for range r.Intn(3) {
			rs = append(rs, drawnRecord(r))
		}
		return rs
	}
	var same int
	for range 30000 {
		a, b := drawn(), drawn()
		if r.Intn(3) == 0 {
			b = roomyRecords(a)
		}
		want := alike(a, b)
		if want {
			same++
		}
		checkSame(t, "drawn", want, a, b)
		if t.Failed() {
			t.Fatalf("%+v and %+v", a, b)
		}
	}
	if same < 5000 {
		t.Errorf("what was drawn is too much alike: %d were the same", same)
	}
}
