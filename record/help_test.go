package record

import (
	"encoding/binary"
	"math"
	"slices"
	"strings"

	"staithe/api"
)

// The kinds, the reasons and the bounds, written out apart from package api: a
// bound that is taken by a wrong name is seen.
const (
	won, commit, over, merged, snap, life = 1, 2, 3, 4, 5, 6

	under, badKey                  = 1, 6
	splits, parts, tries, maxPairs = 6, 4, 3, 40
	maxKey, maxValue               = 16, 64
)

// headBytes is how many bytes a record has whose Set and Pairs are none.
const headBytes = 64

// edges are numbers at the edges of their type, and some that only by their
// low bits are small.
func edges() []int {
	return []int{
		math.MinInt, math.MinInt + 1, math.MinInt + 2, math.MinInt32 - 1, math.MinInt32, math.MinInt32 + 1, -1 << 16, -256, -255, -7, -2, -1,
		256, 257, 1 << 16, 1<<16 + 1, math.MaxInt32, math.MaxInt32 + 1, math.MaxUint32, math.MaxUint32 + 2, math.MaxUint32 + 3, 1 << 40, 1<<62 + 1, math.MaxInt - 1, math.MaxInt,
	}
}

// somePairs answers n pairs, keys falling, each told apart from the others.
func somePairs(n int) []api.Pair {
	var ps []api.Pair
	for i := range n {
		ps = append(ps, api.Pair{Key: strings.Repeat("k", 1+(n-i)%maxKey), Value: strings.Repeat("v", i)})
	}
	return ps
}

// greatPairs answers n pairs, whose keys and values are as long as may be.
func greatPairs(n int) []api.Pair {
	var ps []api.Pair
	for range n {
		ps = append(ps, api.Pair{Key: strings.Repeat("\xff", maxKey), Value: strings.Repeat("\x00", maxValue)})
	}
	return ps
}

// ones answers a record of each kind, two of those that may be in two ways; no
// field that counts is zero.
func ones() []api.Record {
	return []api.Record{
		{Kind: won, Split: 4, Attempt: 2, Set: []int{3, 0, 7}},
		{Kind: commit},
		{Kind: over, Reason: 4, Split: 3},
		{Kind: over, Reason: 5, Part: 2, Attempt: 1},
		{Kind: merged, Part: 2, Split: 4, Attempt: 3, Pairs: []api.Pair{{Key: "b", Value: "x"}, {Key: "", Value: ""}, {Key: "a\x00", Value: "\xff"}}},
		{Kind: snap, Part: 1, Set: []int{1, 2, 5}},
		{Kind: life},
	}
}

// many answers records that may be: those of ones, and others at the least and
// the greatest of their fields.
func many() []api.Record {
	return append(ones(),
		api.Record{Kind: won, Attempt: 1},
		api.Record{Kind: won, Split: splits - 1, Attempt: tries, Set: []int{maxPairs, maxPairs, maxPairs, maxPairs}},
		api.Record{Kind: over, Reason: under},
		api.Record{Kind: over, Reason: badKey, Split: splits - 1},
		api.Record{Kind: over, Reason: badKey, Part: parts - 1, Attempt: 1},
		api.Record{Kind: merged, Attempt: 1},
		api.Record{Kind: merged, Part: parts - 1, Split: splits - 1, Attempt: tries, Pairs: greatPairs(maxPairs)},
		api.Record{Kind: merged, Attempt: 1, Pairs: make([]api.Pair, 1)},
		api.Record{Kind: snap},
		api.Record{Kind: snap, Part: parts - 1, Set: []int{0, 1, 2, 3, 4, 5}},
	)
}

// numbersOf answers where r holds a number that is a field of its own.
func numbersOf(r *api.Record) map[string]*int {
	return map[string]*int{"Kind": &r.Kind, "Part": &r.Part, "Split": &r.Split, "Attempt": &r.Attempt, "Reason": &r.Reason}
}

// numberByHand answers the 8 bytes of n, by the library.
func numberByHand(n int) string {
	return string(binary.BigEndian.AppendUint64(nil, uint64(n)))
}

// textByHand answers the bytes of s.
func textByHand(s string) string { return numberByHand(len(s)) + s }

// bodyByHand answers the bytes of r behind their number, whether or not r may be.
func bodyByHand(r api.Record) string {
	body := numberByHand(r.Kind) + numberByHand(r.Part) + numberByHand(r.Split) + numberByHand(r.Attempt) + numberByHand(r.Reason)
	body += numberByHand(len(r.Set))
	for _, n := range r.Set {
		body += numberByHand(n)
	}
	body += numberByHand(len(r.Pairs))
	for _, p := range r.Pairs {
		body += textByHand(p.Key) + textByHand(p.Value)
	}
	return body
}

// byHand answers the bytes of rs, whether or not they may be.
func byHand(rs ...api.Record) string {
	laid := ""
	for _, r := range rs {
		laid += textByHand(bodyByHand(r))
	}
	return laid
}

// alike answers whether a and b are the same in all fields, apart from Same.
func alike(a, b []api.Record) bool {
	return slices.EqualFunc(a, b, func(a, b api.Record) bool {
		return slices.Equal([]int{a.Kind, a.Part, a.Split, a.Attempt, a.Reason}, []int{b.Kind, b.Part, b.Split, b.Attempt, b.Reason}) &&
			slices.Equal(a.Set, b.Set) && slices.Equal(a.Pairs, b.Pairs)
	})
}

// roomy answers a list with spare room behind it, filled with something to be
// watched.
func roomy[T any](all []T, spare ...T) []T {
	return append(slices.Clone(all), spare...)[:len(all)]
}

// roomyRecords answers rs, all of whose lists have spare room with things that
// may not be.
func roomyRecords(rs []api.Record) []api.Record {
	var all []api.Record
	for _, r := range rs {
		r.Set = roomy(r.Set, 0, -7, 99)
		r.Pairs = roomy(r.Pairs, api.Pair{Key: strings.Repeat("w", 99)}, api.Pair{Value: "w"})
		all = append(all, r)
	}
	return roomy(all, api.Record{Kind: 99}, api.Record{Kind: life})
}

// copied answers rs in memory of its own, with all spare room shown.
func copied(rs []api.Record) []api.Record {
	all := slices.Clone(rs[:cap(rs)])
	for i, r := range all {
		all[i].Set = slices.Clone(r.Set[:cap(r.Set)])
		all[i].Pairs = slices.Clone(r.Pairs[:cap(r.Pairs)])
	}
	return all
}

// fill writes x over all that a list has room for.
func fill[T any](all []T, x T) {
	all = all[:cap(all)]
	for i := range all {
		all[i] = x
	}
}

// spoil writes over all that rs has room for, its records' lists ahead of it.
func spoil(rs []api.Record) {
	for _, r := range rs {
		fill(r.Set, -99)
		fill(r.Pairs, api.Pair{Key: "spoiled", Value: "spoiled"})
	}
	fill(rs, api.Record{Kind: -99, Set: []int{-99}})
}
