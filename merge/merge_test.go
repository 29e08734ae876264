package merge

import (
	"math/rand"
	"slices"
	"strconv"
	"strings"
	"sync"
	"testing"

	"staithe/api"
	"staithe/pair"
)

// list answers pairs of words, each a key, a colon and a value.
func list(words ...string) []api.Pair {
	var ps []api.Pair
	for _, w := range words {
		key, value, _ := strings.Cut(w, ":")
		ps = append(ps, api.Pair{Key: key, Value: value})
	}
	return ps
}

// roomy answers ps with spare room behind it, filled with pairs to be watched.
func roomy(ps []api.Pair) []api.Pair {
	return append(slices.Clone(ps), list("spare:1", "a:spare", ":2")...)[:len(ps)]
}

// spoil overwrites all that a list has room for.
func spoil(ps []api.Pair) {
	ps = ps[:cap(ps)]
	for i := range ps {
		ps[i] = api.Pair{Key: "spoiled", Value: "spoiled"}
	}
}

// below tells by bytes whether a comes ahead of b.
func below(a, b string) bool {
	for i := 0; i < len(a) && i < len(b); i++ {
		if a[i] != b[i] {
			return a[i] < b[i]
		}
	}
	return len(a) < len(b)
}

// picked merges apart from the program's own ways: again and again it takes
// the first pair, by runs and by places, of those whose key is least.
func picked(runs [][]api.Pair) []api.Pair {
	var left, out []api.Pair
	for _, run := range runs {
		left = append(left, run...)
	}
	for len(left) > 0 {
		least := 0
		for i, p := range left {
			if below(p.Key, left[least].Key) {
				least = i
			}
		}
		out = append(out, left[least])
		left = slices.Delete(left, least, least+1)
	}
	return out
}

// drawn answers runs of few keys, whose values tell their runs and places, but
// fall, so that an order of values is seen; each in order, if rising.
func drawn(r *rand.Rand, count, most, keys int, rising bool) [][]api.Pair {
	runs := make([][]api.Pair, count)
	for i := range runs {
		for range r.Intn(most + 1) {
			key := strings.Repeat(string([]byte{byte(r.Intn(keys) * 85)}), r.Intn(4))
			runs[i] = append(runs[i], api.Pair{Key: key})
		}
		if rising {
			slices.SortFunc(runs[i], func(a, b api.Pair) int { return strings.Compare(a.Key, b.Key) })
		}
		for k := range runs[i] {
			runs[i][k].Value = strconv.Itoa(9000 - 100*i - k)
		}
	}
	return runs
}

func TestTheChaptersExample(t *testing.T) {
	got := Two(list("a:1", "c:2"), list("a:0", "b:3"))
	if want := list("a:1", "a:0", "b:3", "c:2"); !slices.Equal(got, want) {
		t.Errorf("P11.1: Two tells %q, not %q", got, want)
	}
}

func TestTwo(t *testing.T) {
	for _, x := range []struct {
		what       string
		a, b, want []api.Pair
	}{
		{"nil and nil", nil, nil, nil},
		{"nil and an empty one", nil, []api.Pair{}, nil},
		{"an empty one and nil", []api.Pair{}, nil, nil},
		{"two empty ones", []api.Pair{}, []api.Pair{}, nil},
		{"one and nil", list("a:1", "b:2"), nil, list("a:1", "b:2")},
		{"nil and one", nil, list("a:1", "b:2"), list("a:1", "b:2")},
		{"one and an empty one", list("a:1", "b:2"), []api.Pair{}, list("a:1", "b:2")},
		{"an empty one and one", []api.Pair{}, list("a:1", "b:2"), list("a:1", "b:2")},
		{"keys in one alone, by turns", list("a:1", "c:2", "e:3"), list("b:4", "d:5"), list("a:1", "b:4", "c:2", "d:5", "e:3")},
		{"all of the first ahead", list("a:1", "b:2"), list("c:3", "d:4"), list("a:1", "b:2", "c:3", "d:4")},
		{"all of the first behind", list("c:3", "d:4"), list("a:1", "b:2"), list("a:1", "b:2", "c:3", "d:4")},
		{"one inside the other", list("a:1", "z:2"), list("b:3", "c:4"), list("a:1", "b:3", "c:4", "z:2")},
		{"one key in both", list("k:1"), list("k:2"), list("k:1", "k:2")},
		{"one key in both, values that fall", list("k:2"), list("k:1"), list("k:2", "k:1")},
		{"some in both, some in one", list("a:9", "b:8", "d:7"), list("b:6", "c:5", "d:4"), list("a:9", "b:8", "b:6", "c:5", "d:7", "d:4")},
		{"a key several times in each", list("a:0", "k:9", "k:7", "k:8", "z:0"), list("k:6", "k:1", "k:5", "z:1"), list("a:0", "k:9", "k:7", "k:8", "k:6", "k:1", "k:5", "z:0", "z:1")},
		{"a key several times, ends alike", list("k:2", "k:1"), list("k:2", "k:1"), list("k:2", "k:1", "k:2", "k:1")},
		{"many of the second's", list("k:1"), list("k:0", "k:0", "k:0"), list("k:1", "k:0", "k:0", "k:0")},
		{"the empty key in both", list(":5", "a:1"), list(":4", ":3"), list(":5", ":4", ":3", "a:1")},
		{"the empty key in the second alone", list("\x00:5"), list(":4"), list(":4", "\x00:5")},
		{"the same pairs", list("a:1", "b:2"), list("a:1", "b:2"), list("a:1", "a:1", "b:2", "b:2")},
	} {
		if got := Two(x.a, x.b); !slices.Equal(got, x.want) {
			t.Errorf("P11.1: Two of %s tells %q, not %q", x.what, got, x.want)
		}
		if got := Runs(x.a, x.b); !slices.Equal(got, x.want) {
			t.Errorf("P11.1: Runs of %s tells %q, not %q", x.what, got, x.want)
		}
	}
}

func TestRuns(t *testing.T) {
	a, b, c := list("a:9", "k:3", "k:1"), list("b:8", "k:2", "k:4"), list("a:1", "k:0", "z:7")
	three := list("a:9", "a:1", "b:8", "k:3", "k:1", "k:2", "k:4", "k:0", "z:7")
	for _, x := range []struct {
		what string
		runs [][]api.Pair
		want []api.Pair
	}{
		{"none at all", nil, nil},
		{"no run of a list", [][]api.Pair{}, nil},
		{"a nil one", [][]api.Pair{nil}, nil},
		{"an empty one", [][]api.Pair{{}}, nil},
		{"several empty ones", [][]api.Pair{nil, {}, {}, nil, {}}, nil},
		{"one", [][]api.Pair{a}, a},
		{"one of one pair", [][]api.Pair{list("k:v")}, list("k:v")},
		{"two", [][]api.Pair{a, b}, list("a:9", "b:8", "k:3", "k:1", "k:2", "k:4")},
		{"two, the other way round", [][]api.Pair{b, a}, list("a:9", "b:8", "k:2", "k:4", "k:3", "k:1")},
		{"three", [][]api.Pair{a, b, c}, three},
		{"three, the last first", [][]api.Pair{c, a, b}, list("a:1", "a:9", "b:8", "k:0", "k:3", "k:1", "k:2", "k:4", "z:7")},
		{"empty ones first", [][]api.Pair{nil, {}, a, b, c}, three},
		{"empty ones in the midst", [][]api.Pair{a, {}, b, nil, nil, c}, three},
		{"empty ones last", [][]api.Pair{a, b, c, {}, nil}, three},
		{"empty ones all about", [][]api.Pair{{}, a, nil, b, {}, nil, c, nil}, three},
		{"one between empty ones", [][]api.Pair{nil, {}, b, nil}, b},
		{"one that stands again", [][]api.Pair{a, a, a}, list("a:9", "a:9", "a:9", "k:3", "k:1", "k:3", "k:1", "k:3", "k:1")},
		{"one key in all", [][]api.Pair{list("k:5"), list("k:4"), list("k:3"), list("k:2"), list("k:1")}, list("k:5", "k:4", "k:3", "k:2", "k:1")},
		{"one key in the first and last", [][]api.Pair{list("k:9"), list("a:0"), list("b:0"), list("k:1")}, list("a:0", "b:0", "k:9", "k:1")},
		{"single ones, falling", [][]api.Pair{list("e:1"), list("d:2"), list("c:3"), list("b:4"), list("a:5")}, list("a:5", "b:4", "c:3", "d:2", "e:1")},
	} {
		if got := Runs(x.runs...); !slices.Equal(got, x.want) {
			t.Errorf("P11.1: Runs of %s tells %q, not %q", x.what, got, x.want)
		}
	}
	if got := Runs(); len(got) != 0 {
		t.Errorf("P11.1: Runs() tells %q", got)
	}
}

func TestKeysOfAnyBytes(t *testing.T) {
	rising := list(
		":1", "\x00:2", "\x00\x00:3", "10:4", "9:5", "A:6", "B:7", "a:8", "a\x00:9", "ab:10", "abc:11", "b:12",
		"\x7f:13", "\x80:14", "\xc2\xff:15", "\xc3:16", "é:17", "\xff:18", "\xff\x00:19", "\xff\xff:20",
	)
	var falling [][]api.Pair
	for i := len(rising) - 1; i >= 0; i-- {
		falling = append(falling, rising[i:i+1])
	}
	if got := Runs(falling...); !slices.Equal(got, rising) {
		t.Errorf("P11.1: Runs of single ones tells %q", got)
	}
	for i := range rising {
		for j := range i {
			if got, want := Two(rising[i:i+1], rising[j:j+1]), []api.Pair{rising[j], rising[i]}; !slices.Equal(got, want) {
				t.Errorf("P11.1: Two tells %q, not %q", got, want)
			}
			if got, want := Two(rising[j:j+1], rising[i:i+1]), []api.Pair{rising[j], rising[i]}; !slices.Equal(got, want) {
				t.Errorf("P11.1: Two tells %q, not %q", got, want)
			}
		}
	}
}

func TestPairsThatMayNotBe(t *testing.T) {
	long := strings.Repeat("k", 99)
	a := []api.Pair{{Key: long, Value: strings.Repeat("v", 999)}}
	b := []api.Pair{{Key: long[:98], Value: "1"}, {Key: long, Value: "2"}, {Key: long + "k", Value: "3"}}
	if got, want := Two(a, b), []api.Pair{b[0], a[0], b[1], b[2]}; !slices.Equal(got, want) {
		t.Errorf("P11.1: Two of long pairs tells %q", got)
	}
}

func TestRunsThatAreNotInOrder(t *testing.T) {
	for _, x := range []struct {
		what string
		runs [][]api.Pair
		want []api.Pair
	}{
		{"one", [][]api.Pair{list("c:1", "a:2", "b:3", "a:1")}, list("a:2", "a:1", "b:3", "c:1")},
		{"the first of two", [][]api.Pair{list("c:9", "a:8"), list("a:1", "c:2")}, list("a:8", "a:1", "c:9", "c:2")},
		{"the second of two", [][]api.Pair{list("a:1", "c:2"), list("c:9", "a:8")}, list("a:1", "a:8", "c:2", "c:9")},
		{"both", [][]api.Pair{list("b:1", "a:2", "b:0"), list("b:9", "a:8", "b:7")}, list("a:2", "a:8", "b:1", "b:0", "b:9", "b:7")},
		{"the midst of three", [][]api.Pair{list("a:1", "c:2"), list("c:9", "a:8"), list("a:0", "b:3")}, list("a:1", "a:8", "a:0", "b:3", "c:2", "c:9")},
		{"one beside empty ones", [][]api.Pair{nil, list("b:1", "a:1"), {}}, list("a:1", "b:1")},
	} {
		if got := Runs(x.runs...); !slices.Equal(got, x.want) {
			t.Errorf("P11.2: Runs, %s not in order, tells %q, not %q", x.what, got, x.want)
		}
		if len(x.runs) == 2 {
			if got := Two(x.runs[0], x.runs[1]); !slices.Equal(got, x.want) {
				t.Errorf("P11.2: Two, %s not in order, tells %q, not %q", x.what, got, x.want)
			}
		}
	}
}

// checkRuns holds what Runs tells against the stable sort, against a merge of
// another kind, and against merges in pieces.
func checkRuns(t *testing.T, runs [][]api.Pair) {
	t.Helper()
	got := Runs(runs...)
	if want := pair.Sort(slices.Concat(runs...)); !slices.Equal(got, want) {
		t.Fatalf("P11.2: Runs of %q tells %q, not as sorted %q", runs, got, want)
	}
	if want := picked(runs); !slices.Equal(got, want) {
		t.Fatalf("P11.1: Runs of %q tells %q, not as picked %q", runs, got, want)
	}
	one := []api.Pair(nil)
	for at := range len(runs) + 1 {
		if pieces := Two(Runs(runs[:at]...), Runs(runs[at:]...)); !slices.Equal(pieces, got) {
			t.Fatalf("P11.2: Runs of %q, cut at %d, tells %q, not %q", runs, at, pieces, got)
		}
		if at < len(runs) {
			one = Two(one, runs[at])
		}
	}
	if !slices.Equal(one, got) {
		t.Fatalf("P11.2: %q, one by one, tells %q, not %q", runs, one, got)
	}
}

func TestTheStableSortOfAllRuns(t *testing.T) {
	r := rand.New(rand.NewSource(111))
	for count := range 14 {
		for range 40 {
			checkRuns(t, drawn(r, count, r.Intn(13), 1+r.Intn(4), true))
		}
	}
}

func TestTheStableSortOfRunsInNoOrder(t *testing.T) {
	r := rand.New(rand.NewSource(112))
	for count := range 9 {
		for range 40 {
			checkRuns(t, drawn(r, count, r.Intn(13), 1+r.Intn(4), false))
		}
	}
}

func TestTwoIsTheStableSort(t *testing.T) {
	r := rand.New(rand.NewSource(113))
	for range 400 {
		runs := drawn(r, 2, 30, 1+r.Intn(4), r.Intn(4) > 0)
		got := Two(runs[0], runs[1])
		if want := pair.Sort(slices.Concat(runs...)); !slices.Equal(got, want) {
			t.Fatalf("P11.2: Two of %q tells %q, not %q", runs, got, want)
		}
		if want := picked(runs); !slices.Equal(got, want) {
			t.Fatalf("P11.1: Two of %q tells %q, not %q", runs, got, want)
		}
	}
}

func TestManyRunsAndLongOnes(t *testing.T) {
	for _, x := range []struct{ count, length int }{{2, 100000}, {400, 500}, {200000, 1}} {
		runs := make([][]api.Pair, x.count)
		for i := range runs {
			for k := range x.length {
				key := strconv.Itoa(1000 + (k*90/x.length+7*i)%90*9)
				runs[i] = append(runs[i], api.Pair{Key: key, Value: strconv.Itoa(i) + "." + strconv.Itoa(k)})
			}
			runs[i] = pair.Sort(runs[i])
		}
		if !slices.Equal(Runs(runs...), pair.Sort(slices.Concat(runs...))) {
			t.Errorf("P11.2: %d runs of %d pairs", x.count, x.length)
		}
	}
	if got := Runs(make([][]api.Pair, 1000000)...); len(got) != 0 {
		t.Errorf("P11.1: many empty runs tell %q", got)
	}
}

// checkMemory asks one call twice, and changes what it answered, then what was
// handed in: neither may turn anything else.
func checkMemory(t *testing.T, what string, handed [][]api.Pair, ask func() []api.Pair) {
	t.Helper()
	var before [][]api.Pair
	for _, ps := range handed {
		before = append(before, slices.Clone(ps[:cap(ps)]))
	}
	stays := func(when string) {
		t.Helper()
		for i, ps := range handed {
			if !slices.Equal(ps[:cap(ps)], before[i]) {
				t.Errorf("R4: %s: %s, what was handed in is %q", what, when, ps[:cap(ps)])
			}
		}
	}
	first, second := ask(), ask()
	want := slices.Clone(first)
	stays("behind the call")
	_ = append(first, list("m:1", "n:2", "o:3")...)
	stays("behind an append onto the answer")
	spoil(first)
	stays("behind a change to the answer")
	if !slices.Equal(second, want) || !slices.Equal(ask(), want) {
		t.Errorf("R4: %s: a change to an answer turns another one", what)
	}
	for _, ps := range handed {
		spoil(ps)
	}
	if !slices.Equal(second, want) {
		t.Errorf("R4: %s: a change to what was handed in turns an answer: %q", what, second)
	}
}

func TestMemory(t *testing.T) {
	one, other := list("a:2", "c:1", "c:0"), list("a:1", "b:3")
	for _, x := range []struct {
		what string
		runs [][]api.Pair
	}{
		{"none at all", nil},
		{"a single run", [][]api.Pair{one}},
		{"a single run in no order", [][]api.Pair{list("c:1", "a:1", "b:1")}},
		{"a single pair", [][]api.Pair{list("k:v")}},
		{"a single empty run", [][]api.Pair{nil}},
		{"two runs", [][]api.Pair{one, other}},
		{"two runs in no order", [][]api.Pair{list("c:1", "a:1"), list("b:1", "a:0")}},
		{"one run ahead of the other", [][]api.Pair{list("a:1", "b:1"), list("c:1", "d:1")}},
		{"one run behind the other", [][]api.Pair{list("c:1", "d:1"), list("a:1", "b:1")}},
		{"a run and an empty one", [][]api.Pair{one, nil}},
		{"an empty run and one", [][]api.Pair{nil, one}},
		{"two empty runs", [][]api.Pair{nil, nil}},
		{"only the first of several not empty", [][]api.Pair{one, nil, nil, nil}},
		{"only a middle one not empty", [][]api.Pair{nil, nil, one, nil, nil}},
		{"only the last of several not empty", [][]api.Pair{nil, nil, nil, one}},
		{"several runs", [][]api.Pair{one, nil, other, one, nil, list("b:1", "a:0")}},
	} {
		// Each call has lists of its own, since the check overwrites them.
		handed := func() [][]api.Pair {
			var runs [][]api.Pair
			for _, run := range x.runs {
				runs = append(runs, roomy(run))
			}
			return runs
		}
		runs := handed()
		checkMemory(t, "Runs of "+x.what, runs, func() []api.Pair { return Runs(runs...) })
		if len(x.runs) == 2 {
			two := handed()
			checkMemory(t, "Two of "+x.what, two, func() []api.Pair { return Two(two[0], two[1]) })
		}
	}
}

func TestTheListOfRunsStays(t *testing.T) {
	for count := range 6 {
		room := [][]api.Pair{list("b:1", "c:2"), nil, list("c:0", "a:1"), {}, list("a:2"), list("spare:1"), list("spare:2")}
		var before [][]api.Pair
		for _, run := range room {
			before = append(before, slices.Clone(run))
		}
		Runs(room[:count]...)
		if !slices.EqualFunc(room, before, slices.Equal[[]api.Pair]) {
			t.Errorf("R4: behind Runs of the first %d the list is %q", count, room)
		}
	}
}

func TestRunsOfOneRoom(t *testing.T) {
	// Pieces of one list: an append onto the first would run into the next.
	ps := list("c:1", "d:2", "a:3", "b:4", "a:5", "e:6")
	stays := slices.Clone(ps)
	want := list("a:5", "a:3", "b:4", "c:1", "d:2", "e:6")
	if got := Runs(ps[:2], ps[4:], ps[2:4]); !slices.Equal(got, want) || !slices.Equal(ps, stays) {
		t.Errorf("R4: Runs of pieces tells %q, they are now of %q", got, ps)
	}
	want = list("a:3", "b:4", "c:1", "d:2")
	if got := Two(ps[:2], ps[2:4]); !slices.Equal(got, want) || !slices.Equal(ps, stays) {
		t.Errorf("R4: Two of pieces tells %q, they are now of %q", got, ps)
	}
	got := Two(ps[2:4], ps[2:4])
	if !slices.Equal(got, list("a:3", "a:3", "b:4", "b:4")) || !slices.Equal(ps, stays) {
		t.Errorf("R4: Two of one list twice tells %q, it is now of %q", got, ps)
	}
}

func TestSeveralGoroutines(t *testing.T) {
	runs := drawn(rand.New(rand.NewSource(114)), 6, 20, 4, true)
	for i := range runs {
		runs[i] = roomy(runs[i])
	}
	all, two := picked(runs), picked(runs[:2])
	var done sync.WaitGroup
	for range 8 {
		done.Add(1)
		go func() {
			defer done.Done()
			for range 50 {
				a, b := Runs(runs...), Two(runs[0], runs[1])
				if !slices.Equal(a, all) || !slices.Equal(b, two) {
					t.Error("R5: another answer beside other goroutines")
					return
				}
				spoil(a)
				spoil(b)
			}
		}()
	}
	done.Wait()
}
