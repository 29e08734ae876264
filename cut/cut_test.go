package cut

import (
	"math"
	"math/big"
	"slices"
	"strconv"
	"strings"
	"sync"
	"testing"

	"staithe/api"
)

// some answers n pairs, each told apart from the others, keys falling, so that
// a cut that sorts or leaves values away is seen.
func some(n int) []api.Pair {
	var ps []api.Pair
	for i := range n {
		ps = append(ps, api.Pair{Key: "k" + strconv.Itoa(n-i), Value: "v" + strconv.Itoa(i)})
	}
	return ps
}

// keys answers pairs without values, a key each letter.
func keys(letters string) []api.Pair {
	var ps []api.Pair
	for _, letter := range strings.Split(letters, "") {
		ps = append(ps, api.Pair{Key: letter})
	}
	return ps
}

// roomy answers ps with spare room behind it, filled with pairs to be watched.
func roomy(ps []api.Pair) []api.Pair {
	return append(slices.Clone(ps), keys("xyz")...)[:len(ps)]
}

// whole answers a copy of a list and of its spare room.
func whole(ps []api.Pair) []api.Pair { return slices.Clone(ps[:cap(ps)]) }

// spoil overwrites all that a list has room for.
func spoil(ps []api.Pair) {
	ps = ps[:cap(ps)]
	for i := range ps {
		ps[i] = api.Pair{Key: "spoiled", Value: "spoiled"}
	}
}

// edges are numbers at the edges of their type, and about 0.
func edges() []int {
	return []int{
		math.MinInt, math.MinInt + 1, math.MinInt / 2, math.MinInt32 - 1, math.MinInt32, -3, -2, -1, 0,
		1, 2, 3, 4, 5, 6, 7, 8,
		math.MaxInt32, math.MaxInt32 + 1, math.MaxUint32, math.MaxUint32 + 1, 1<<62 - 1, 1 << 62, 1<<62 + 1, math.MaxInt - 1, math.MaxInt,
	}
}

// wholeChunks works out how many chunks there are in numbers that never go
// round.
func wholeChunks(n, size int) int {
	if n <= 0 || size <= 0 {
		return 0
	}
	full, left := new(big.Int).DivMod(big.NewInt(int64(n)), big.NewInt(int64(size)), new(big.Int))
	if left.Sign() != 0 {
		full.Add(full, big.NewInt(1))
	}
	return int(full.Int64())
}

func TestTheChaptersExamples(t *testing.T) {
	if got := Size(2, 1); got != 3 {
		t.Errorf("P10.1: Size(2, 1) is %d", got)
	}
	if got := Chunks(5, 2); got != 3 {
		t.Errorf("P10.1: Chunks(5, 2) is %d", got)
	}
	if got := Chunk(keys("abc"), 2, 1); !slices.Equal(got, keys("c")) {
		t.Errorf("P10.1: Chunk(a b c, 2, 1) is %q", got)
	}
}

func TestSize(t *testing.T) {
	for _, attempt := range []int{0, 2, 4, 6, 100, -2, -4, -100, math.MaxInt - 1, math.MinInt, math.MinInt32} {
		for _, chunk := range []int{1, 2, 3, api.MaxChunk - 1, 0, -1, -5, math.MinInt, math.MaxInt} {
			if got := Size(chunk, attempt); got != chunk {
				t.Errorf("P10.1: Size(%d, %d) is %d", chunk, attempt, got)
			}
		}
	}
	for _, attempt := range []int{1, 3, 5, 99, -1, -3, -99, math.MaxInt, math.MinInt + 1, math.MaxInt32} {
		for _, x := range []struct{ chunk, want int }{
			{1, 2}, {2, 3}, {3, 4}, {api.MaxChunk - 1, api.MaxChunk},
			{0, 1}, {-1, 0}, {-5, -4}, {math.MinInt, math.MinInt + 1}, {math.MaxInt - 1, math.MaxInt},
		} {
			if got := Size(x.chunk, attempt); got != x.want {
				t.Errorf("P10.1: Size(%d, %d) is %d, not %d", x.chunk, attempt, got, x.want)
			}
		}
	}
}

func TestSizeOfAnyNumbersEnds(t *testing.T) {
	for _, chunk := range edges() {
		for _, attempt := range edges() {
			if again := Size(chunk, attempt); again != Size(chunk, attempt) {
				t.Errorf("R5: Size(%d, %d) is %d, then another", chunk, attempt, again)
			}
		}
	}
}

func TestChunks(t *testing.T) {
	for _, x := range []struct{ n, size, want int }{
		{1, 1, 1}, {2, 1, 2}, {7, 1, 7},
		{1, 3, 1}, {2, 3, 1}, {3, 3, 1}, {4, 3, 2},
		{5, 3, 2}, {6, 3, 2}, {7, 3, 3},
		{39, 8, 5}, {40, 8, 5}, {41, 8, 6},
		{1, 9, 1}, {8, 9, 1}, {9, 9, 1}, {10, 9, 2},
		{0, 2, 0}, {-1, 2, 0}, {-4, 2, 0}, {math.MinInt, 2, 0},
		{5, 0, 0}, {5, -1, 0}, {4, -2, 0}, {5, math.MinInt, 0},
		{0, 0, 0}, {-1, -1, 0}, {-4, -2, 0}, {math.MinInt, -1, 0}, {math.MinInt, math.MinInt, 0},
		{math.MaxInt, 1, math.MaxInt}, {math.MaxInt - 1, 1, math.MaxInt - 1},
		{math.MaxInt, 2, 1 << 62}, {math.MaxInt - 1, 2, 1<<62 - 1},
		{math.MaxInt, 1 << 62, 2}, {1 << 62, 1 << 62, 1}, {1<<62 + 1, 1 << 62, 2},
		{1, math.MaxInt, 1}, {2, math.MaxInt, 1}, {0, math.MaxInt, 0}, {-1, math.MaxInt, 0},
		{math.MaxInt - 1, math.MaxInt, 1}, {math.MaxInt, math.MaxInt, 1}, {math.MaxInt, math.MaxInt - 1, 2},
		{math.MaxInt, 0, 0}, {math.MaxInt, -1, 0},
	} {
		if got := Chunks(x.n, x.size); got != x.want {
			t.Errorf("P10.1: Chunks(%d, %d) is %d, not %d", x.n, x.size, got, x.want)
		}
	}
}

func TestChunksIsTheQuotientUp(t *testing.T) {
	for _, n := range edges() {
		for _, size := range edges() {
			if got, want := Chunks(n, size), wholeChunks(n, size); got != want {
				t.Errorf("P10.1: Chunks(%d, %d) is %d, not %d", n, size, got, want)
			}
		}
	}
	for n := range 100 {
		for size := range 100 {
			if got, want := Chunks(n, size), wholeChunks(n, size); got != want {
				t.Errorf("P10.1: Chunks(%d, %d) is %d, not %d", n, size, got, want)
			}
		}
	}
}

func TestChunk(t *testing.T) {
	seven, six := keys("abcdefg"), keys("abcdef")
	for _, x := range []struct {
		what      string
		ps        []api.Pair
		size, seq int
		want      string
	}{
		{"the first", seven, 3, 0, "abc"},
		{"one in the midst", seven, 3, 1, "def"},
		{"the last, not full", seven, 3, 2, "g"},
		{"the first of six", six, 3, 0, "abc"},
		{"the last, full", six, 3, 1, "def"},
		{"the last, one pair short", keys("abcde"), 3, 1, "de"},
		{"the first of single ones", six, 1, 0, "a"},
		{"one of single ones", six, 1, 3, "d"},
		{"the last of single ones", six, 1, 5, "f"},
		{"one that is all", six, 6, 0, "abcdef"},
		{"one with room for more", six, 7, 0, "abcdef"},
		{"one with room for the most", six, math.MaxInt, 0, "abcdef"},
		{"a single pair", keys("a"), 1, 0, "a"},
		{"a single pair with room", keys("a"), 2, 0, "a"},
		{"the same pair again and again", keys("aaaba"), 2, 1, "ab"},
		{"pairs in no order", keys("cabac"), 3, 1, "ac"},
	} {
		if got := Chunk(x.ps, x.size, x.seq); !slices.Equal(got, keys(x.want)) {
			t.Errorf("P10.1: %s, Chunk(%q, %d, %d), is %q", x.what, x.ps, x.size, x.seq, got)
		}
	}
}

func TestChunkWhereThereIsNone(t *testing.T) {
	for _, x := range []struct {
		what      string
		n         int
		size, seq int
	}{
		{"a seq of -1", 5, 2, -1},
		{"a seq of -2", 5, 2, -2},
		{"a seq of -1 and a size of -1", 5, -1, -1},
		{"the least seq", 5, 2, math.MinInt},
		{"a seq behind the last, not full", 5, 2, 3},
		{"a seq behind the last, full", 6, 2, 3},
		{"a seq behind the only one", 5, 5, 1},
		{"a seq far behind", 5, 2, 100},
		{"a size of 0", 5, 0, 0},
		{"a size of 0, a later seq", 5, 0, 1},
		{"a size of -1", 5, -1, 0},
		{"the least size", 5, math.MinInt, 0},
		{"the least size and seq", 5, math.MinInt, math.MinInt},
		{"no pairs", 0, 2, 0},
		{"no pairs, a later seq", 0, 2, 1},
		{"no pairs, a seq of -1", 0, 2, -1},
		{"no pairs, a size of 0", 0, 0, 0},
		{"the greatest seq", 5, 2, math.MaxInt},
		{"the greatest seq of single ones", 5, 1, math.MaxInt},
		{"the greatest size, behind the only one", 5, math.MaxInt, 1},
		{"the greatest size and seq, whose product goes round to 1", 5, math.MaxInt, math.MaxInt},
		{"the greatest size, a product that goes round to -2", 5, math.MaxInt, 2},
		{"a product that goes round to 0", 5, 1 << 62, 4},
		{"a product that goes round to 0, by the seq", 5, 4, 1 << 62},
		{"a product that goes round to 4", 5, 4, 1<<62 + 1},
		{"a product that goes round to 2", 5, 3, 6148914691236517206},
		{"a seq below 0, a product that goes round to 4", 5, 4, math.MinInt + 1},
		{"an end that goes round", 5, math.MaxInt - 1, 1},
		{"the least seq, a product that goes round to 0", 5, 2, math.MinInt},
	} {
		if got := Chunk(some(x.n), x.size, x.seq); len(got) != 0 {
			t.Errorf("P10.1: %s, Chunk(%d pairs, %d, %d), is %q", x.what, x.n, x.size, x.seq, got)
		}
	}
	if got := Chunk([]api.Pair{}, 1, 0); len(got) != 0 {
		t.Errorf("P10.1: Chunk of an empty list is %q", got)
	}
}

// wantChunk finds a chunk pair by pair: pair i is of the chunk that i by size,
// down, tells.
func wantChunk(ps []api.Pair, size, seq int) []api.Pair {
	var want []api.Pair
	for i, p := range ps {
		if size > 0 && i/size == seq {
			want = append(want, p)
		}
	}
	return want
}

func TestChunkOfManySizes(t *testing.T) {
	sizes := append(edges(), 9, 10, 11, 12, 13, 14, 39, 40, 41)
	for n := range 14 {
		ps := some(n)
		for _, size := range sizes {
			for _, seq := range append(edges(), 9, 10, 11, 12, 13, 14) {
				if got, want := Chunk(ps, size, seq), wantChunk(ps, size, seq); !slices.Equal(got, want) {
					t.Fatalf("P10.1: Chunk(%d pairs, %d, %d) is %q, not %q", n, size, seq, got, want)
				}
			}
		}
	}
}

func TestChunkTakesPairsThatMayNotBe(t *testing.T) {
	long := api.Pair{Key: strings.Repeat("k", 99), Value: strings.Repeat("v", 999)}
	ps := []api.Pair{{Key: "a"}, long, {}, {Key: "\xff\x00", Value: "\x80"}}
	if got := Chunk(ps, 2, 0); !slices.Equal(got, ps[:2]) {
		t.Errorf("P10.1: the first chunk is %q", got)
	}
	if got := Join(Chunk(ps, 3, 0), Chunk(ps, 3, 1)); !slices.Equal(got, ps) {
		t.Errorf("P10.2: joined %q", got)
	}
}

func TestJoin(t *testing.T) {
	ab, c, ca := keys("ab"), keys("c"), keys("ca")
	for _, x := range []struct {
		what   string
		chunks [][]api.Pair
		want   []api.Pair
	}{
		{"none at all", nil, nil},
		{"no chunk of a list", [][]api.Pair{}, nil},
		{"one", [][]api.Pair{ab}, keys("ab")},
		{"one that is nil", [][]api.Pair{nil}, nil},
		{"one that is empty", [][]api.Pair{{}}, nil},
		{"several empty ones", [][]api.Pair{nil, {}, nil}, nil},
		{"two", [][]api.Pair{ab, c}, keys("abc")},
		{"two the other way round", [][]api.Pair{c, ab}, keys("cab")},
		{"several, in no order", [][]api.Pair{ca, ab, c}, keys("caabc")},
		{"one that stands again", [][]api.Pair{ab, c, ab, ab}, keys("abcabab")},
		{"empty ones first", [][]api.Pair{nil, {}, ab}, keys("ab")},
		{"empty ones in the midst", [][]api.Pair{ab, nil, {}, c}, keys("abc")},
		{"empty ones last", [][]api.Pair{ab, {}, nil}, keys("ab")},
		{"empty ones all about", [][]api.Pair{{}, ab, nil, c, {}}, keys("abc")},
		{"values too", [][]api.Pair{some(2), some(3)}, append(some(2), some(3)...)},
	} {
		if got := Join(x.chunks...); !slices.Equal(got, x.want) {
			t.Errorf("P10.1: Join of %s is %q, not %q", x.what, got, x.want)
		}
	}
	if got := Join(); len(got) != 0 {
		t.Errorf("P10.1: Join() is %q", got)
	}
	if got := Join(ab, c, ca); !slices.Equal(got, keys("abcca")) {
		t.Errorf("P10.1: Join of three is %q", got)
	}
}

// inChunks cuts ps into all its chunks, and tells how the cut was wrong.
func inChunks(t *testing.T, ps []api.Pair, size int) [][]api.Pair {
	t.Helper()
	count := Chunks(len(ps), size)
	var all [][]api.Pair
	for seq := range count {
		chunk := Chunk(ps, size, seq)
		if len(chunk) < 1 || len(chunk) > size || seq < count-1 && len(chunk) != size {
			t.Fatalf("P10.1: chunk %d of %d, size %d, of %d pairs has %d", seq, count, size, len(ps), len(chunk))
		}
		all = append(all, chunk)
	}
	for _, seq := range []int{count, count + 1, count + 50, math.MaxInt} {
		if got := Chunk(ps, size, seq); len(got) != 0 {
			t.Fatalf("P10.2: behind %d chunks chunk %d is %q", count, seq, got)
		}
	}
	return all
}

func TestAllChunksAreThePairs(t *testing.T) {
	for n := range api.MaxPairs + 10 {
		ps := some(n)
		for size := 1; size < n+4; size++ {
			if got := Join(inChunks(t, ps, size)...); !slices.Equal(got, ps) {
				t.Fatalf("P10.2: %d pairs by %d: %q", n, size, got)
			}
		}
		for _, size := range []int{math.MaxInt32, 1 << 62, math.MaxInt - 1, math.MaxInt} {
			if got := Join(inChunks(t, ps, size)...); !slices.Equal(got, ps) {
				t.Fatalf("P10.2: %d pairs by %d: %q", n, size, got)
			}
		}
	}
}

func TestAllChunksOfAnAttempt(t *testing.T) {
	for chunk := 1; chunk < api.MaxChunk; chunk++ {
		for attempt := 1; attempt <= api.MaxTries; attempt++ {
			ps := some(api.MaxPairs)
			if got := Join(inChunks(t, ps, Size(chunk, attempt))...); !slices.Equal(got, ps) {
				t.Errorf("P10.2: attempt %d, chunks of %d: %q", attempt, chunk, got)
			}
		}
	}
}

func TestAllChunksOfManyPairs(t *testing.T) {
	ps := some(200000)
	for _, size := range []int{1, 7, 1000, 199999, 200000} {
		if !slices.Equal(Join(inChunks(t, ps, size)...), ps) {
			t.Errorf("P10.2: %d pairs by %d are others", len(ps), size)
		}
	}
}

// checkMemory asks one call twice, and changes what it answered, then what was
// handed in: neither may turn anything else.
func checkMemory(t *testing.T, what string, handed [][]api.Pair, ask func() []api.Pair) {
	t.Helper()
	var before [][]api.Pair
	for _, ps := range handed {
		before = append(before, whole(ps))
	}
	stays := func(when string) {
		t.Helper()
		for i, ps := range handed {
			if !slices.Equal(ps[:cap(ps)], before[i]) {
				t.Errorf("R4: %s: %s, what was handed in is %q", what, when, ps[:cap(ps)])
			}
		}
	}
	first, second := ask(), ask()
	want := slices.Clone(first)
	stays("behind the call")
	_ = append(first, keys("mno")...)
	stays("behind an append onto the answer")
	spoil(first)
	stays("behind a change to the answer")
	if !slices.Equal(second, want) || !slices.Equal(ask(), want) {
		t.Errorf("R4: %s: a change to an answer turns another one", what)
	}
	for _, ps := range handed {
		spoil(ps)
	}
	if !slices.Equal(second, want) {
		t.Errorf("R4: %s: a change to what was handed in turns an answer: %q", what, second)
	}
}

func TestMemoryOfChunk(t *testing.T) {
	for size := -1; size < 9; size++ {
		for seq := -1; seq < 9; seq++ {
			ps := roomy(keys("abcdefg"))
			what := "Chunk of size " + strconv.Itoa(size) + ", seq " + strconv.Itoa(seq)
			checkMemory(t, what, [][]api.Pair{ps}, func() []api.Pair { return Chunk(ps, size, seq) })
		}
	}
	none := roomy(nil)
	checkMemory(t, "Chunk of none", [][]api.Pair{none}, func() []api.Pair { return Chunk(none, 2, 0) })
	ps := roomy(keys("abcdefg"))
	checkMemory(t, "Chunk of the greatest size", [][]api.Pair{ps}, func() []api.Pair { return Chunk(ps, math.MaxInt, 0) })
}

func TestChunksOfOneListShareNothing(t *testing.T) {
	ps := keys("abcdefg")
	all := inChunks(t, ps, 3)
	_ = append(all[0], keys("xyz")...)
	spoil(all[0])
	spoil(all[2])
	if !slices.Equal(all[1], keys("def")) || !slices.Equal(ps, keys("abcdefg")) {
		t.Errorf("R4: beside changed chunks stand %q of %q", all[1], ps)
	}
}

func TestMemoryOfJoin(t *testing.T) {
	for _, x := range []struct {
		what    string
		letters []string
	}{
		{"none at all", nil},
		{"a single one", []string{"abc"}},
		{"a single empty one", []string{""}},
		{"two", []string{"ab", "c"}},
		{"one behind an empty one", []string{"", "abc"}},
		{"one ahead of an empty one", []string{"abc", ""}},
		{"several", []string{"ab", "", "c", "def", ""}},
	} {
		var chunks [][]api.Pair
		for _, letters := range x.letters {
			chunks = append(chunks, roomy(keys(letters)))
		}
		checkMemory(t, "Join of "+x.what, chunks, func() []api.Pair { return Join(chunks...) })
	}
}

func TestTheListOfChunksStays(t *testing.T) {
	room := [][]api.Pair{keys("ab"), nil, keys("c"), keys("spare")}
	chunks := room[:3]
	Join(chunks...)
	for i, want := range []string{"ab", "", "c", "spare"} {
		if !slices.Equal(room[i], keys(want)) {
			t.Errorf("R4: behind Join list %d is %q", i, room[i])
		}
	}
}

func TestChunksOfOneRoomAreJoined(t *testing.T) {
	// Pieces of one list: an append onto the first would run into the next.
	ps := keys("abcdef")
	got := Join(ps[:2], ps[4:], ps[2:4])
	if !slices.Equal(got, keys("abefcd")) || !slices.Equal(ps, keys("abcdef")) {
		t.Errorf("R4: Join of pieces is %q, they are now of %q", got, ps)
	}
}

func TestSeveralGoroutines(t *testing.T) {
	ps := roomy(some(50))
	var all sync.WaitGroup
	for range 8 {
		all.Add(1)
		go func() {
			defer all.Done()
			for range 50 {
				a, b := Chunk(ps, 30, 0), Chunk(ps, 30, 1)
				if !slices.Equal(Join(a, b), ps) || Size(2, 1) != 3 || Chunks(5, 2) != 3 {
					t.Error("R5: another answer beside other goroutines")
					return
				}
				spoil(a)
				spoil(b)
			}
		}()
	}
	all.Wait()
}
