package pair

import (
	"math/rand"
	"slices"
	"strconv"
	"strings"
	"sync"
	"testing"

	"staithe/api"
)

// list answers pairs of words, each a key, a colon and a value.
func list(words ...string) []api.Pair {
	var ps []api.Pair
	for _, w := range words {
		key, value, _ := strings.Cut(w, ":")
		ps = append(ps, api.Pair{Key: key, Value: value})
	}
	return ps
}

// roomy answers ps with spare room behind it, filled with pairs to be watched.
func roomy(ps []api.Pair) []api.Pair {
	room := append(slices.Clone(ps), list("spare:1", "a:spare", ":2")...)
	return room[:len(ps)]
}

// drawn answers n pairs of few keys, whose values tell their places.
func drawn(r *rand.Rand, n, keys int) []api.Pair {
	ps := make([]api.Pair, n)
	for i := range ps {
		ps[i].Key = strings.Repeat(string([]byte{byte(r.Intn(keys) * 85)}), r.Intn(3))
		ps[i].Value = strconv.Itoa(i)
	}
	return ps
}

// inserted sorts by insertion, apart from the program's own sort: a pair goes
// behind all whose key is not above its own.
func inserted(ps []api.Pair) []api.Pair {
	var out []api.Pair
	for _, p := range ps {
		at := 0
		for i, q := range out {
			if !below(p.Key, q.Key) {
				at = i + 1
			}
		}
		out = slices.Insert(out, at, p)
	}
	return out
}

// below tells by bytes whether a comes ahead of b.
func below(a, b string) bool {
	for i := 0; i < len(a) && i < len(b); i++ {
		if a[i] != b[i] {
			return a[i] < b[i]
		}
	}
	return len(a) < len(b)
}

func TestTheChaptersExample(t *testing.T) {
	if got := Sort(list("b:1", "a:2", "b:0")); !slices.Equal(got, list("a:2", "b:1", "b:0")) {
		t.Errorf("P7.1: Sort tells %v", got)
	}
}

func TestWhichPairsMayBe(t *testing.T) {
	if !May(nil) || !May([]api.Pair{}) {
		t.Error("P7.1: no pairs may be")
	}
	long := strings.Repeat("x", 4096)
	fit := api.Pair{Key: long[:api.MaxKey], Value: long[:api.MaxBytes]}
	for _, x := range []struct {
		what string
		p    api.Pair
		may  bool
	}{
		{"an empty one", api.Pair{}, true},
		{"a key of MaxKey", api.Pair{Key: fit.Key}, true},
		{"a value of MaxBytes", api.Pair{Value: fit.Value}, true},
		{"both at their bounds", fit, true},
		{"bytes from 128 on", api.Pair{Key: strings.Repeat("\xff", api.MaxKey), Value: strings.Repeat("\x80", api.MaxBytes)}, true},
		{"runes that are more bytes than MaxKey", api.Pair{Key: strings.Repeat("é", api.MaxKey/2) + "é"}, false},
		{"a key of one more", api.Pair{Key: long[:api.MaxKey+1]}, false},
		{"a value of one more", api.Pair{Value: long[:api.MaxBytes+1]}, false},
		{"a key as long as a value may be", api.Pair{Key: fit.Value}, false},
		{"both of one more", api.Pair{Key: long[:api.MaxKey+1], Value: long[:api.MaxBytes+1]}, false},
		{"both far too long", api.Pair{Key: long, Value: long}, false},
	} {
		if May([]api.Pair{x.p}) != x.may {
			t.Errorf("P7.1: May of %s alone is %v", x.what, !x.may)
		}
		for at := range 5 {
			ps := []api.Pair{fit, {}, fit, {Key: "k"}, {Value: "v"}}
			ps[at] = x.p
			if May(ps) != x.may {
				t.Errorf("P7.1: May of %s at place %d is %v", x.what, at, !x.may)
			}
		}
	}
}

func TestMayAsksNoOrderAndNoNumber(t *testing.T) {
	ps := drawn(rand.New(rand.NewSource(71)), 3*api.MaxPairs, 4)
	if !May(ps) {
		t.Error("P7.1: many pairs in no order may be")
	}
}

func TestSortAtEdges(t *testing.T) {
	for _, x := range []struct {
		what     string
		ps, want []api.Pair
	}{
		{"nil", nil, nil},
		{"no pairs", []api.Pair{}, nil},
		{"one pair", list("k:v"), list("k:v")},
		{"rising", list("a:1", "b:2", "c:3"), list("a:1", "b:2", "c:3")},
		{"falling", list("c:1", "b:2", "a:3"), list("a:3", "b:2", "c:1")},
		{"all the same", list("k:3", "k:1", "k:2", "k:1"), list("k:3", "k:1", "k:2", "k:1")},
		{"the empty key", list("a:1", ":9", "b:0", ":8"), list(":9", ":8", "a:1", "b:0")},
		{"a key that begins another", list("ab:1", "b:2", "a:3", "abc:4"), list("a:3", "ab:1", "abc:4", "b:2")},
		{"high bytes", list("\x80:1", "\x7f:2", "\xff:3", "z:4", "\x00:5", ":6"), list(":6", "\x00:5", "z:4", "\x7f:2", "\x80:1", "\xff:3")},
		{"high letters and low", list("a:1", "B:2", "b:3", "A:4"), list("A:4", "B:2", "a:1", "b:3")},
		{"digits by bytes", list("9:1", "10:2"), list("10:2", "9:1")},
		{"bytes, not runes", list("\xc3:1", "é:2", "\xc2\xff:3"), list("\xc2\xff:3", "\xc3:1", "é:2")},
		{"pairs that may not be", list(strings.Repeat("x", 99)+":1", "a:"+strings.Repeat("y", 99)), list("a:"+strings.Repeat("y", 99), strings.Repeat("x", 99)+":1")},
	} {
		if got := Sort(x.ps); !slices.Equal(got, x.want) {
			t.Errorf("P7.1: Sort of %s tells %q, not %q", x.what, got, x.want)
		}
	}
}

func TestSortIsStable(t *testing.T) {
	r := rand.New(rand.NewSource(72))
	for range 300 {
		ps := drawn(r, r.Intn(200), 1+r.Intn(4))
		got := Sort(ps)
		if want := inserted(ps); !slices.Equal(got, want) {
			t.Fatalf("P7.1: Sort(%q) tells %q, not %q", ps, got, want)
		}
		if !Sorted(got) {
			t.Fatalf("P7.1: what Sort tells of %q is not sorted", ps)
		}
		if again := Sort(got); !slices.Equal(again, got) {
			t.Fatalf("P7.1: Sort turns what is sorted: %q to %q", got, again)
		}
	}
}

func TestSortOfManyPairs(t *testing.T) {
	ps := make([]api.Pair, 50000)
	for i := range ps {
		ps[i] = api.Pair{Key: strconv.Itoa((len(ps) - i) / 1000), Value: strconv.Itoa(i)}
	}
	got := Sort(ps)
	if len(got) != len(ps) || !Sorted(got) {
		t.Fatal("P7.1: Sort of many pairs")
	}
	place := map[string]int{}
	for _, p := range got {
		at, _ := strconv.Atoi(p.Value)
		if at < place[p.Key] {
			t.Fatalf("P7.1: of key %s value %d comes behind %d", p.Key, at, place[p.Key])
		}
		place[p.Key] = at
	}
}

func TestSorted(t *testing.T) {
	for _, x := range []struct {
		what string
		ps   []api.Pair
		want bool
	}{
		{"nil", nil, true},
		{"no pairs", []api.Pair{}, true},
		{"one pair", list("k:v"), true},
		{"two of one key", list("k:1", "k:1"), true},
		{"two of one key, values that fall", list("k:2", "k:1"), true},
		{"rising", list("a:9", "b:8"), true},
		{"falling, values that rise", list("b:8", "a:9"), false},
		{"the empty key first", list(":1", "a:1"), true},
		{"the empty key behind", list("a:1", ":1"), false},
		{"a key behind what it begins", list("a:1", "ab:1"), true},
		{"a key ahead of what it begins", list("ab:1", "a:1"), false},
		{"a high byte behind", list("\x7f:1", "\x80:1"), true},
		{"a high byte ahead", list("\x80:1", "\x7f:1"), false},
		{"an end below the first alone", list("b:1", "c:1", "c:2", "a:1"), false},
	} {
		if Sorted(x.ps) != x.want {
			t.Errorf("P7.1: Sorted of %s is %v", x.what, !x.want)
		}
	}
	for at := 1; at < 6; at++ {
		ps := list("b:1", "d:1", "f:1", "h:1", "j:1", "l:1")
		ps[at].Key = string([]byte{ps[at-1].Key[0] - 1})
		if Sorted(ps) {
			t.Errorf("P7.1: a key below the one ahead at place %d is not seen", at)
		}
	}
}

func TestKeys(t *testing.T) {
	for _, x := range []struct {
		what string
		ps   []api.Pair
		want []string
	}{
		{"nil", nil, nil},
		{"no pairs", []api.Pair{}, nil},
		{"one pair", list("k:v"), []string{"k"}},
		{"in no order", list("b:1", "a:2", "c:0", "b:0", "a:2"), []string{"a", "b", "c"}},
		{"one key", list("k:1", "k:2", "k:3"), []string{"k"}},
		{"the empty key alone", list(":1", ":2"), []string{""}},
		{"the empty key among others", list("b:1", ":2", "a:3", ":4"), []string{"", "a", "b"}},
		{"keys apart by bytes", list("\x80:1", "ab:2", "a:3", "\x7f:4", "A:5"), []string{"A", "a", "ab", "\x7f", "\x80"}},
	} {
		if got := Keys(x.ps); !slices.Equal(got, x.want) {
			t.Errorf("P7.1: Keys of %s are %q, not %q", x.what, got, x.want)
		}
	}
}

func TestOf(t *testing.T) {
	ps := list("b:1", "a:2", ":9", "b:0", "b:1", "ab:7", ":8", "a:", "B:4")
	for _, x := range []struct {
		key  string
		want []string
	}{
		{"b", []string{"1", "0", "1"}},
		{"a", []string{"2", ""}},
		{"", []string{"9", "8"}},
		{"ab", []string{"7"}},
		{"B", []string{"4"}},
		{"abc", nil},
		{"c", nil},
		{"1", nil},
		{"\x00", nil},
	} {
		if got := Of(ps, x.key); !slices.Equal(got, x.want) {
			t.Errorf("P7.1: Of %q tells %q, not %q", x.key, got, x.want)
		}
	}
	if len(Of(nil, "")) != 0 || len(Of([]api.Pair{}, "a")) != 0 {
		t.Error("P7.1: Of no pairs")
	}
	same := list("k:v", "k:v", "k:v")
	if got := Of(same, "k"); !slices.Equal(got, []string{"v", "v", "v"}) {
		t.Errorf("P7.1: of values that are the same Of tells %q", got)
	}
}

func TestKeysAndOfTellAll(t *testing.T) {
	r := rand.New(rand.NewSource(73))
	for range 200 {
		ps := drawn(r, r.Intn(60), 1+r.Intn(4))
		var told []api.Pair
		for _, key := range Keys(ps) {
			for _, v := range Of(ps, key) {
				told = append(told, api.Pair{Key: key, Value: v})
			}
		}
		if want := inserted(ps); !slices.Equal(told, want) {
			t.Fatalf("P7.1: by keys %q is told as %q, not %q", ps, told, want)
		}
	}
}

func TestSame(t *testing.T) {
	base := list("a:1", "b:2", "b:2")
	for _, x := range []struct {
		what string
		a, b []api.Pair
		want bool
	}{
		{"nothing and nothing", nil, nil, true},
		{"nothing and no pairs", nil, []api.Pair{}, true},
		{"no pairs, with room and without", base[:0], nil, true},
		{"the same memory", base, base, true},
		{"the same pairs", base, list("a:1", "b:2", "b:2"), true},
		{"the same pairs, other room", base, roomy(base), true},
		{"one fewer", base, base[:2], false},
		{"none", base, nil, false},
		{"one that is empty", nil, []api.Pair{{}}, false},
		{"another first key", base, list("A:1", "b:2", "b:2"), false},
		{"another last key", base, list("a:1", "b:2", "c:2"), false},
		{"another first value", base, list("a:0", "b:2", "b:2"), false},
		{"another last value", base, list("a:1", "b:2", "b:3"), false},
		{"another order", base, list("b:2", "a:1", "b:2"), false},
		{"another order of one key", list("k:1", "k:2"), list("k:2", "k:1"), false},
		{"key and value turned", list("a:b"), list("b:a"), false},
		{"the same bytes, cut elsewhere", list("ab:c"), list("a:bc"), false},
	} {
		if Same(x.a, x.b) != x.want || Same(x.b, x.a) != x.want {
			t.Errorf("P7.1: Same of %s is not %v", x.what, x.want)
		}
	}
}

func TestArgumentsStay(t *testing.T) {
	ps := roomy(list("c:1", "a:2", ":3", "c:0", "b:4"))
	other := roomy(list("c:1", "a:2", ":3", "c:0", "b:5"))
	whole, wholeOther := slices.Clone(ps[:cap(ps)]), slices.Clone(other[:cap(other)])
	May(ps)
	Sort(ps)
	Sorted(ps)
	Keys(ps)
	Of(ps, "c")
	Same(ps, other)
	if !slices.Equal(ps[:cap(ps)], whole) || !slices.Equal(other[:cap(other)], wholeOther) {
		t.Errorf("R4: what was handed in is now %q and %q", ps[:cap(ps)], other[:cap(other)])
	}
}

// spoil overwrites all that a list has room for.
func spoil[T any](list []T, with T) {
	list = list[:cap(list)]
	for i := range list {
		list[i] = with
	}
}

func TestAnswersAreNewMemory(t *testing.T) {
	for _, words := range [][]string{
		{"c:1", "a:2", ":3", "c:0", "b:4"},
		{"a:1", "b:2", "c:3"},
		{"c:1"},
	} {
		ps := roomy(list(words...))
		whole := slices.Clone(ps[:cap(ps)])
		sorted, keys, values := Sort(ps), Keys(ps), Of(ps, "c")
		wantSorted, wantKeys, wantValues := slices.Clone(sorted), slices.Clone(keys), slices.Clone(values)
		spoil(sorted, api.Pair{Key: "spoiled"})
		spoil(keys, "spoiled")
		spoil(values, "spoiled")
		if !slices.Equal(ps[:cap(ps)], whole) {
			t.Errorf("R4: a change to what was answered turns what was handed in: %q", ps[:cap(ps)])
		}
		if !slices.Equal(Sort(ps), wantSorted) || !slices.Equal(Keys(ps), wantKeys) || !slices.Equal(Of(ps, "c"), wantValues) {
			t.Errorf("R4: a change to what was answered turns the next answer of %q", words)
		}
	}
}

func TestAnswersAreNotKept(t *testing.T) {
	ps := list("b:1", "a:2")
	sorted, keys, values := Sort(ps), Keys(ps), Of(ps, "a")
	spoil(ps, api.Pair{Key: "z", Value: "z"})
	if !slices.Equal(sorted, list("a:2", "b:1")) || !slices.Equal(keys, []string{"a", "b"}) || !slices.Equal(values, []string{"2"}) {
		t.Errorf("R4: a change to what was handed in turns answers: %q %q %q", sorted, keys, values)
	}
}

func TestSeveralGoroutines(t *testing.T) {
	ps := roomy(drawn(rand.New(rand.NewSource(74)), 80, 4))
	want, keys := inserted(ps), Keys(ps)
	var all sync.WaitGroup
	for range 8 {
		all.Add(1)
		go func() {
			defer all.Done()
			for range 50 {
				sorted := Sort(ps)
				if !Same(sorted, want) || !Sorted(sorted) || !May(ps) || !slices.Equal(Keys(ps), keys) || len(Of(ps, keys[0])) == 0 {
					t.Error("R5: another answer beside other goroutines")
					return
				}
			}
		}()
	}
	all.Wait()
}
