package record

import (
	"slices"
	"strings"
	"testing"

	"staithe/api"
)

// checkMay holds what May and Lay tell of r against want.
func checkMay(t *testing.T, want bool, r api.Record) {
	t.Helper()
	if got := May(r); got != want {
		t.Errorf("P15.1: May(%+v): %t", r, got)
	}
	if got := Lay(r); (len(got) != 0) != want {
		t.Errorf("P15.1: Lay(%+v): %d bytes", r, len(got))
	}
	if rs, at := Read([]byte(byHand(r))); (len(rs) == 1 && at != 0) != want || !want && (len(rs) != 0 || at != 0) {
		t.Errorf("P15.1: Read of %+v, laid by hand: %d records, %d", r, len(rs), at)
	}
}

// checkNumber holds r, one of whose numbers takes each value, against those
// that it may have.
func checkNumber(t *testing.T, r api.Record, set func(r *api.Record, n int), least, most int) {
	t.Helper()
	for _, n := range edges() {
		x := r
		set(&x, n)
		checkMay(t, false, x)
	}
	for n := -9; n <= 50; n++ {
		x := r
		set(&x, n)
		checkMay(t, least <= n && n <= most, x)
	}
}

// own answers the fields of a record like r, other than its Kind, that may be
// other than zero, and what they may be.
func own(r api.Record) map[string][2]int {
	switch {
	case r.Kind == won:
		return map[string][2]int{"Split": {0, 5}, "Attempt": {1, 3}}
	case r.Kind == over && r.Attempt == 0:
		return map[string][2]int{"Split": {0, 5}, "Reason": {1, 6}}
	case r.Kind == over:
		return map[string][2]int{"Part": {0, 3}, "Reason": {1, 6}}
	case r.Kind == merged:
		return map[string][2]int{"Part": {0, 3}, "Split": {0, 5}, "Attempt": {1, 3}}
	case r.Kind == snap:
		return map[string][2]int{"Part": {0, 3}}
	}
	return nil
}

func TestMayOfThoseThatMayBe(t *testing.T) {
	for _, r := range many() {
		checkMay(t, true, r)
	}
	checkMay(t, false, api.Record{})
}

func TestMayOfEachNumber(t *testing.T) {
	for _, r := range ones() {
		for name := range numbersOf(&r) {
			if name == "Kind" || name == "Attempt" && r.Kind == over {
				continue
			}
			bounds := own(r)[name] // of a field that is none of its own 0 and 0
			checkNumber(t, r, func(x *api.Record, n int) { *numbersOf(x)[name] = n }, bounds[0], bounds[1])
		}
	}
}

func TestMayOfKinds(t *testing.T) {
	for _, r := range append(ones(), api.Record{}) {
		for _, kind := range append(edges(), -3, 0, 7, 8, 9, 10, 22, 64) {
			r.Kind = kind
			checkMay(t, false, r)
		}
	}
	for kind := range 10 {
		checkMay(t, kind == commit || kind == snap || kind == life, api.Record{Kind: kind})
		checkMay(t, kind == won || kind == merged, api.Record{Kind: kind, Attempt: 2})
		checkMay(t, kind == over, api.Record{Kind: kind, Reason: 2})
	}
}

func TestMayOfOver(t *testing.T) {
	attempt := func(r *api.Record, n int) { r.Attempt = n }
	checkNumber(t, api.Record{Kind: over, Reason: 2}, attempt, 0, 1)
	checkNumber(t, api.Record{Kind: over, Reason: 2, Split: 2}, attempt, 0, 0)
	checkNumber(t, api.Record{Kind: over, Reason: 2, Part: 2}, attempt, 1, 1)
	checkNumber(t, api.Record{Kind: over, Reason: 2, Split: 2, Part: 2}, attempt, 1, 0)
	for attempt := range 2 {
		for reason := -1; reason < 9; reason++ {
			for split := -1; split < 8; split++ {
				for part := -1; part < 6; part++ {
					want := reason >= 1 && reason <= 6
					if attempt == 0 {
						want = want && part == 0 && split >= 0 && split <= 5
					} else {
						want = want && split == 0 && part >= 0 && part <= 3
					}
					checkMay(t, want, api.Record{Kind: over, Reason: reason, Split: split, Part: part, Attempt: attempt})
				}
			}
		}
	}
}

func TestMayOfASetOfCounts(t *testing.T) {
	r := api.Record{Kind: won, Attempt: 1}
	for n := range 9 {
		r.Set = make([]int, n)
		checkMay(t, n <= 4, r)
		fill(r.Set, 40)
		checkMay(t, n <= 4, r)
		for i := range min(n, 4) {
			checkNumber(t, r, func(r *api.Record, count int) {
				r.Set = slices.Clone(r.Set[:min(n, 4)])
				r.Set[i] = count
			}, 0, 40)
		}
	}
	r.Set = []int{5, 5, 4, 0}
	checkMay(t, true, r)
}

// TestMayOfASetOfSplits takes every set of at most four numbers about those
// that splits are, and longer ones.
func TestMayOfASetOfSplits(t *testing.T) {
	r := api.Record{Kind: snap, Part: 1}
	var grow func(set []int, may bool)
	grow = func(set []int, may bool) {
		r.Set = set
		checkMay(t, may, r)
		if len(set) == 4 {
			return
		}
		for n := -1; n <= 6; n++ {
			next := may && n >= 0 && n <= 5 && (len(set) == 0 || set[len(set)-1] < n)
			grow(append(slices.Clone(set), n), next)
		}
	}
	grow(nil, true)
	for _, n := range edges() {
		for i := range 3 {
			r.Set = []int{1, 2, 3}
			r.Set[i] = n
			checkMay(t, false, r)
		}
	}
	for _, set := range [][]int{{1, 2, 3, 4, 5}, {0, 1, 2, 3, 5}, {0, 1, 2, 3, 4, 5}} {
		r.Set = set
		checkMay(t, true, r)
	}
	for _, set := range [][]int{{0, 1, 2, 3, 4, 4}, {0, 1, 2, 3, 5, 4}, {1, 2, 3, 4, 5, 6}, {0, 0, 1, 2, 3, 4, 5}, {0, 1, 2, 3, 4, 5, 5}, {0, 1, 2, 3, 4, 5, 6}, {-1, 0, 1, 2, 3, 4, 5}, make([]int, 100)} {
		r.Set = set
		checkMay(t, false, r)
	}
}

func TestMayOfPairs(t *testing.T) {
	r := api.Record{Kind: merged, Attempt: 1}
	for n := range 50 {
		r.Pairs = make([]api.Pair, n)
		checkMay(t, n <= 40, r)
		r.Pairs = greatPairs(n)
		checkMay(t, n <= 40, r)
	}
	for _, n := range []int{1, 2, 3, 40} {
		for i := range n {
			for _, x := range []struct {
				may   bool
				key   int
				value int
			}{{true, 0, 0}, {true, 16, 64}, {true, 0, 64}, {true, 16, 0}, {false, 17, 0}, {false, 0, 65}, {false, 64, 0}, {false, 17, 65}, {false, 1000, 1}, {false, 1, 1000}} {
				r.Pairs = somePairs(n)
				r.Pairs[i] = api.Pair{Key: strings.Repeat("k", x.key), Value: strings.Repeat("v", x.value)}
				checkMay(t, x.may, r)
			}
		}
	}
	// Of these many runes there are many more bytes.
	r.Pairs = []api.Pair{{Key: strings.Repeat("é", 8), Value: strings.Repeat("é", 32)}}
	checkMay(t, true, r)
	r.Pairs = []api.Pair{{Key: strings.Repeat("é", 9)}}
	checkMay(t, false, r)
	r.Pairs = []api.Pair{{Value: strings.Repeat("é", 33)}}
	checkMay(t, false, r)
}

func TestMayOfListsThatAreNotTheKinds(t *testing.T) {
	for _, r := range many() {
		if r.Kind != won && r.Kind != snap {
			for _, set := range [][]int{{0}, {1}, {0, 1}, make([]int, 6)} {
				x := r
				x.Set = set
				checkMay(t, false, x)
			}
		}
		if r.Kind != merged {
			for _, ps := range [][]api.Pair{make([]api.Pair, 1), somePairs(2), greatPairs(40)} {
				x := r
				x.Pairs = ps
				checkMay(t, false, x)
			}
		}
	}
}

func TestAnEmptyListIsNone(t *testing.T) {
	for _, r := range append(many(), api.Record{Kind: 7}, api.Record{Kind: won}) {
		x := r
		if len(r.Set) == 0 {
			r.Set, x.Set = nil, make([]int, 0, 3)
		}
		if len(r.Pairs) == 0 {
			r.Pairs, x.Pairs = nil, make([]api.Pair, 0, 3)
		}
		if May(r) != May(x) {
			t.Errorf("P15.1: May of %+v hangs on whether an empty list is nil", r)
		}
		if string(Lay(r)) != string(Lay(x)) {
			t.Errorf("P15.1: Lay of %+v hangs on whether an empty list is nil", r)
		}
		if !Same([]api.Record{r}, []api.Record{x}) || !Same([]api.Record{x}, []api.Record{r}) {
			t.Errorf("P15.1: Same of %+v hangs on whether an empty list is nil", r)
		}
	}
}
