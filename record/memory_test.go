package record

import (
	"bytes"
	"math"
	"reflect"
	"slices"
	"strings"
	"sync"
	"testing"
	"time"

	"staithe/api"
)

// askAll asks all calls of rs and of b.
func askAll(rs []api.Record, b []byte) {
	for _, r := range rs {
		May(r)
		Lay(r)
	}
	Lay(rs...)
	Read(b)
	Same(rs, rs)
	Same(rs, many())
	Same(many(), rs)
}

func TestWhatIsHandedInStays(t *testing.T) {
	wrong := append(many(), api.Record{Kind: 9, Set: []int{9, 1}, Pairs: greatPairs(50)})
	for _, all := range [][]api.Record{nil, many(), wrong, many()[3:9]} {
		rs := roomyRecords(all)
		b := roomy([]byte(byHand(all...)), []byte(byHand(many()...))...)
		before, bytesBefore := copied(rs), slices.Clone(b[:cap(b)])
		askAll(rs, b)
		askAll(rs[:len(rs)/2], b[:len(b)/2])
		if !reflect.DeepEqual(copied(rs), before) {
			t.Errorf("R4: records that were handed in were changed: %+v, not %+v", copied(rs), before)
		}
		if !bytes.Equal(b[:cap(b)], bytesBefore) {
			t.Errorf("R4: bytes that were handed in were changed")
		}
	}
}

func TestWhatLayAnswersIsItsOwn(t *testing.T) {
	rs := roomyRecords(many())
	before, want := copied(rs), byHand(many()...)
	first, second := Lay(rs...), Lay(rs...)
	fill(first, '#')
	first = append(first, "more"...)
	fill(first, '#')
	if string(second) != want || string(Lay(rs...)) != want {
		t.Error("R4: an answer of Lay was changed with another")
	}
	if !reflect.DeepEqual(copied(rs), before) {
		t.Error("R4: with an answer of Lay what was handed in was changed")
	}
	for _, r := range many() {
		one := Lay(r)
		fill(one, '#')
		if string(Lay(r)) != byHand(r) {
			t.Errorf("R4: an answer of Lay, written over, changed the next one of %+v", r)
		}
	}
}

func TestLayKeepsNothing(t *testing.T) {
	rs := roomyRecords(many())
	b := Lay(rs...)
	spoil(rs)
	if string(b) != byHand(many()...) {
		t.Error("R4: an answer of Lay was changed with what was handed in")
	}
}

func TestWhatReadAnswersIsItsOwn(t *testing.T) {
	laid := byHand(many()...)
	b := roomy([]byte(laid), []byte(byHand(ones()...))...)
	before := slices.Clone(b[:cap(b)])
	first, _ := Read(b)
	second, _ := Read(b)
	for i, r := range first {
		first[i].Set, first[i].Pairs = append(r.Set, 77), append(r.Pairs, api.Pair{Key: "more"})
	}
	spoil(first)
	first = append(first, api.Record{Kind: 77})
	spoil(first)
	if !bytes.Equal(b[:cap(b)], before) {
		t.Error("R4: with an answer of Read what was handed in was changed")
	}
	if !alike(second, many()) {
		t.Error("R4: an answer of Read was changed with another")
	}
	third, at := Read(b)
	if !alike(third, many()) || at != len(laid) {
		t.Error("R4: an answer of Read was changed with an earlier one")
	}
}

func TestReadKeepsNothing(t *testing.T) {
	b := roomy([]byte(byHand(many()...)), []byte(byHand(ones()...))...)
	rs, _ := Read(b)
	fill(b, '#')
	if !alike(rs, many()) {
		t.Error("R4: an answer of Read was changed with what was handed in")
	}
}

// TestListsOfOneAnswer writes over, and appends to, each list of an answer of
// Read: all the others stand.
func TestListsOfOneAnswer(t *testing.T) {
	var all []api.Record
	for range 3 {
		all = append(all, many()...)
	}
	b := Lay(all...)
	for i := range all {
		rs, _ := Read(b)
		set, ps := append(rs[i].Set, 77), append(rs[i].Pairs, api.Pair{Key: "more"})
		fill(set, -99)
		fill(ps, api.Pair{Key: "spoiled"})
		fill(rs[i].Set, -99)
		fill(rs[i].Pairs, api.Pair{Key: "spoiled"})
		rs[i] = all[i]
		if !alike(rs, all) {
			t.Errorf("R4: of one answer of Read, with the lists of record %d others were changed", i)
		}
	}
}

// TestAtOneTime has several goroutines ask of the same records and bytes.
func TestAtOneTime(t *testing.T) {
	rs := many()
	b := Lay(rs...)
	var all sync.WaitGroup
	for range 8 {
		all.Add(1)
		go func() {
			defer all.Done()
			for range 20 {
				got, at := Read(b)
				if !Same(got, rs) || at != len(b) || !bytes.Equal(Lay(rs...), b) {
					t.Error("R5: calls at one time tell something else")
				}
				spoil(got)
			}
		}()
	}
	all.Wait()
}

// TestSizes has great lists, and bytes that speak of greater ones.
func TestSizes(t *testing.T) {
	begun := time.Now()
	var rs []api.Record
	for range 4000 {
		rs = append(rs, many()...)
	}
	b := Lay(rs...)
	got, at := Read(b)
	if !Same(got, rs) || at != len(b) {
		t.Errorf("P15.1: Read of %d records: %d, and %d of %d bytes", len(rs), len(got), at, len(b))
	}
	for _, r := range []api.Record{{Kind: won, Attempt: 1, Set: make([]int, 1<<24)}, {Kind: snap, Set: make([]int, 1<<24)}, {Kind: merged, Attempt: 1, Pairs: make([]api.Pair, 1<<22)}, {Kind: life, Set: make([]int, 1<<24)}} {
		for range 1000 {
			if May(r) || Lay(r) != nil {
				t.Fatalf("P15.1: May of kind %d and a list of millions: true", r.Kind)
			}
		}
	}
	great := strings.Repeat("k", 1<<24)
	if r := (api.Record{Kind: merged, Attempt: 1, Pairs: []api.Pair{{Value: great}}}); May(r) || Lay(r) != nil {
		t.Error("P15.1: May of a value of millions of bytes: true")
	}
	for _, n := range []int{1 << 21, 1 << 40, math.MaxInt / 8, math.MaxInt / 16, math.MaxInt} {
		for _, at := range []int{48, 56} {
			x := withNumber(byHand(api.Record{Kind: won, Attempt: 1}), at, n)
			x = withNumber(x+strings.Repeat("\x00", 1<<24), 0, 56+1<<24)
			if rs, end := Read([]byte(x)); len(rs) != 0 || end != 0 {
				t.Errorf("P15.1: Read of a count of %d: %d records, %d", n, len(rs), end)
			}
		}
	}
	if took := time.Since(begun); took > 20*time.Second {
		t.Errorf("R1: the greatest sizes took %v", took)
	}
}
