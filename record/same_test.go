package record

import (
	"slices"
	"strings"
	"testing"

	"staithe/api"
)

// checkSame holds what Same tells of a and b, both ways, against want.
func checkSame(t *testing.T, what string, want bool, a, b []api.Record) {
	t.Helper()
	if got := Same(a, b); got != want {
		t.Errorf("P15.1: Same, %s: %t", what, got)
	}
	if got := Same(b, a); got != want {
		t.Errorf("P15.1: Same, %s, the other way round: %t", what, got)
	}
}

// full answers a record none of whose fields is zero; it may not be.
func full(n int) api.Record {
	return api.Record{
		Kind: n + 1, Part: n + 2, Split: n + 3, Attempt: n + 4, Reason: n + 5,
		Set: []int{n, 9, n}, Pairs: []api.Pair{{Key: "k", Value: "v"}, {Key: "a", Value: "b"}, {Key: "k", Value: "v"}},
	}
}

// turns answers, by names, all ways to make one thing of a full record another.
func turns() map[string]func(r *api.Record) {
	all := map[string]func(r *api.Record){
		"a longer Set":         func(r *api.Record) { r.Set = append(r.Set, 0) },
		"a shorter Set":        func(r *api.Record) { r.Set = r.Set[:2] },
		"a later Set":          func(r *api.Record) { r.Set = r.Set[1:] },
		"no Set":               func(r *api.Record) { r.Set = nil },
		"a Set turned round":   func(r *api.Record) { r.Set[0], r.Set[1] = r.Set[1], r.Set[0] },
		"more Pairs":           func(r *api.Record) { r.Pairs = append(r.Pairs, api.Pair{}) },
		"fewer Pairs":          func(r *api.Record) { r.Pairs = r.Pairs[:2] },
		"later Pairs":          func(r *api.Record) { r.Pairs = r.Pairs[1:] },
		"no Pairs":             func(r *api.Record) { r.Pairs = nil },
		"Pairs turned round":   func(r *api.Record) { r.Pairs[0], r.Pairs[1] = r.Pairs[1], r.Pairs[0] },
		"a key for a value":    func(r *api.Record) { r.Pairs[1] = api.Pair{Key: "b", Value: "a"} },
		"bytes between others": func(r *api.Record) { r.Pairs[1] = api.Pair{Key: "ab"} },
	}
	for i := range 3 {
		at := " " + string(rune('0'+i))
		all["number"+at+" of Set"] = func(r *api.Record) { r.Set[i]++ }
		all["key"+at] = func(r *api.Record) { r.Pairs[i].Key += "\x00" }
		all["value"+at] = func(r *api.Record) { r.Pairs[i].Value += "\x00" }
		all["upper key"+at] = func(r *api.Record) { r.Pairs[i].Key = strings.ToUpper(r.Pairs[i].Key) }
		all["upper value"+at] = func(r *api.Record) { r.Pairs[i].Value = strings.ToUpper(r.Pairs[i].Value) }
	}
	for name := range numbersOf(&api.Record{}) {
		all[name+" one more"] = func(r *api.Record) { *numbersOf(r)[name]++ }
		all[name+" below 0"] = func(r *api.Record) { *numbersOf(r)[name] *= -1 }
		all[name+" zero"] = func(r *api.Record) { *numbersOf(r)[name] = 0 }
		all[name+" the same in its low bits"] = func(r *api.Record) { *numbersOf(r)[name] += 1 << 32 }
		all[name+" the same in its high bits"] = func(r *api.Record) { *numbersOf(r)[name] ^= 1 }
	}
	return all
}

func TestSameOfTheSame(t *testing.T) {
	some := func() []api.Record { return []api.Record{full(1), full(2), full(3)} }
	checkSame(t, "records that may not be", true, some(), some())
	checkSame(t, "records that may be", true, many(), many())
	for i := range many() {
		checkSame(t, "one record", true, many()[i:i+1], many()[i:i+1])
	}
	a := some()
	checkSame(t, "a list and itself", true, a, a)
}

func TestSameOfEachField(t *testing.T) {
	for n := 1; n <= 4; n++ {
		for i := range n {
			for name, turn := range turns() {
				var a, b []api.Record
				for k := range n {
					a, b = append(a, full(k)), append(b, full(k))
				}
				turn(&b[i])
				checkSame(t, name, false, a, b)
			}
		}
	}
}

func TestSameOfFieldsBesideEachOther(t *testing.T) {
	one := func(r api.Record) []api.Record { return []api.Record{r} }
	checkSame(t, "numbers that changed places", false, one(api.Record{Part: 1, Split: 2}), one(api.Record{Part: 2, Split: 1}))
	checkSame(t, "another field", false, one(api.Record{Split: 1}), one(api.Record{Attempt: 1}))
	checkSame(t, "a record of zero values and none", false, one(api.Record{}), nil)
}

func TestSameOfUnlikeLengths(t *testing.T) {
	all := many()
	for i := range len(all) + 1 {
		for k := range len(all) + 1 {
			checkSame(t, "one the other's beginning", i == k, all[:i], all[:k])
		}
	}
	for i := range all {
		checkSame(t, "one left out", false, all, slices.Delete(slices.Clone(all), i, i+1))
		checkSame(t, "one twice", false, all, slices.Insert(slices.Clone(all), i, all[i]))
	}
	turned := slices.Clone(all)
	slices.Reverse(turned)
	checkSame(t, "in another order", false, all, turned)
}

func TestSameOfEmptyLists(t *testing.T) {
	lists := [][]api.Record{nil, {}, make([]api.Record, 0, 4), many()[:0]}
	for _, a := range lists {
		for _, b := range lists {
			checkSame(t, "none", true, a, b)
		}
		checkSame(t, "none and some", false, a, many())
	}
	r, x := full(1), full(1)
	r.Set, x.Set = nil, []int{}
	r.Pairs, x.Pairs = []api.Pair{}, nil
	checkSame(t, "lists of a record", true, []api.Record{r}, []api.Record{x})
}
