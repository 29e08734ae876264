package snap

import (
	"math/rand"
	"slices"
	"strconv"
	"strings"
	"testing"

	"staithe/api"
	"staithe/fold"
	"staithe/merge"
	"staithe/vm"
)

// dueByWords and the next ones say the chapter once more, in plain words.
func dueByWords(marks []int, n int) bool {
	for _, mark := range marks {
		if mark == n {
			return true
		}
	}
	return false
}

func reachedByWords(marks []int, n int) int {
	not := 0
	for _, mark := range marks {
		if mark > n {
			not++
		}
	}
	return len(marks) - not
}

func growsByWords(a, b []int) bool {
	for _, x := range a {
		if !dueByWords(b, x) {
			return false
		}
	}
	return true
}

// ofByWords takes the least key again and again, and its values by runs and by
// places.
func ofByWords(p []api.Ins, fuel int, runs [][]api.Pair) ([]api.Pair, int) {
	var left, all []api.Pair
	for _, run := range runs {
		left = append(left, run...)
	}
	for len(left) > 0 {
		key := left[0].Key
		for _, x := range left {
			key = min(key, x.Key)
		}
		var values []string
		var others []api.Pair
		for _, x := range left {
			if x.Key == key {
				values = append(values, x.Value)
			} else {
				others = append(others, x)
			}
		}
		told, why := vm.Run(p, key, values, fuel)
		if why != api.Fine {
			return nil, why
		}
		all, left = append(all, told...), others
	}
	if len(all) > mostPairs {
		return nil, api.Many
	}
	return all, api.Fine
}

// drawnNumbers answers at most most numbers of few kinds; some at the edges.
func drawnNumbers(r *rand.Rand, most int) []int {
	all := make([]int, r.Intn(most+1))
	for i := range all {
		all[i] = r.Intn(7) - 1
		if r.Intn(8) == 0 {
			all[i] = edges()[r.Intn(len(edges()))]
		}
	}
	return all
}

func TestMarksAndNumbersThatWereDrawn(t *testing.T) {
	r := rand.New(rand.NewSource(201))
	due, grows := 0, 0
	const rows = 20000
	for range rows {
		marks, b := drawnNumbers(r, 5), drawnNumbers(r, 9)
		n := r.Intn(8) - 1
		if r.Intn(8) == 0 {
			n = edges()[r.Intn(len(edges()))]
		}
		askMarks(t, marks, n, dueByWords(marks, n), reachedByWords(marks, n))
		askGrows(t, marks, b, growsByWords(marks, b))
		askGrows(t, b, marks, growsByWords(b, marks))
		if dueByWords(marks, n) {
			due++
		}
		if len(marks) > 0 && growsByWords(marks, b) {
			grows++
		}
	}
	if due < rows/10 || due > rows*9/10 || grows < rows/10 || grows > rows*9/10 {
		t.Errorf("the drawn rows are too much alike: %d of %d due, %d grow", due, rows, grows)
	}
}

// drawnRuns answers runs of few keys, "y" and "z" among them, with equal pairs
// too; each in order, if rising.
func drawnRuns(r *rand.Rand, count, most int, rising bool) [][]api.Pair {
	runs := make([][]api.Pair, count)
	for i := range runs {
		for range r.Intn(most + 1) {
			key := strings.Repeat(string(rune('a'+r.Intn(3))), r.Intn(3))
			if r.Intn(40) == 0 {
				key = "y"
			}
			if r.Intn(40) == 0 {
				key = "z"
			}
			runs[i] = append(runs[i], api.Pair{Key: key, Value: strconv.Itoa(r.Intn(40))})
		}
		if rising {
			slices.SortStableFunc(runs[i], func(a, b api.Pair) int { return strings.Compare(a.Key, b.Key) })
		}
	}
	return runs
}

func TestRunsThatWereDrawn(t *testing.T) {
	r := rand.New(rand.NewSource(202))
	const rows = 6000
	seen := map[int]int{}
	for row := range rows {
		runs := drawnRuns(r, r.Intn(7), 1+r.Intn(14), r.Intn(4) > 0)
		p := turns(reasons()[r.Intn(5)], reasons()[r.Intn(5)])
		if row%9 == 0 {
			p = [][]api.Ins{first(), each(), other()}[row/9%3]
		}
		fuel := mostFuel
		if r.Intn(3) == 0 {
			fuel = r.Intn(90) - 1
		}
		want, why := ofByWords(p, fuel, runs)
		askOf(t, p, fuel, runs, want, why)
		if told, reason := fold.Each(p, merge.Runs(runs...), fuel); !slices.Equal(told, want) || reason != why {
			wrong(t, "P20.1: fold.Each of merge.Runs: %s, %d, not %s, %d", brief(told), reason, brief(want), why)
		}
		seen[why]++
	}
	for _, why := range append(reasons(), api.Fine) {
		if seen[why] < rows/50 {
			t.Errorf("of %d drawn rows but %d end for reason %d", rows, seen[why], why)
		}
	}
}
