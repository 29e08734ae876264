package part

import (
	"math"
	"math/big"
	"math/rand"
	"slices"
	"strconv"
	"strings"
	"sync"
	"testing"

	"staithe/api"
)

// list answers pairs of words, each a key, a colon and a value.
func list(words ...string) []api.Pair {
	var ps []api.Pair
	for _, w := range words {
		key, value, _ := strings.Cut(w, ":")
		ps = append(ps, api.Pair{Key: key, Value: value})
	}
	return ps
}

// roomy answers ps with spare room behind it, filled with pairs to be watched.
func roomy(ps []api.Pair) []api.Pair {
	room := append(slices.Clone(ps), list("spare:1", "a:spare", ":2")...)
	return room[:len(ps)]
}

// spoil overwrites all that a list has room for.
func spoil(ps []api.Pair) {
	ps = ps[:cap(ps)]
	for i := range ps {
		ps[i] = api.Pair{Key: "spoiled", Value: "spoiled"}
	}
}

// drawnKey answers a key of at most most bytes, any bytes.
func drawnKey(r *rand.Rand, most int) string {
	key := make([]byte, r.Intn(most+1))
	for i := range key {
		key[i] = byte(r.Intn(256))
	}
	return string(key)
}

// drawn answers n pairs, some of them with the same key, some of them twice.
func drawn(r *rand.Rand, n int) []api.Pair {
	ps := make([]api.Pair, 0, n)
	for i := range n {
		next := api.Pair{Key: drawnKey(r, 5), Value: strconv.Itoa(i)}
		if i > 0 && r.Intn(3) == 0 {
			next.Key = ps[r.Intn(i)].Key
		}
		if i > 0 && r.Intn(8) == 0 {
			next = ps[r.Intn(i)]
		}
		ps = append(ps, next)
	}
	return ps
}

// wholeNumber works a key's number out without going round, and takes what is
// left of it by 1<<32 at the end.
func wholeNumber(key string) uint32 {
	number := big.NewInt(7)
	for _, b := range []byte(key) {
		number.Mul(number, big.NewInt(31))
		number.Add(number, big.NewInt(int64(b)))
	}
	return uint32(number.Mod(number, big.NewInt(1<<32)).Uint64())
}

// highKey answers a key whose number is 1<<31 or above.
func highKey(t *testing.T) string {
	for i := range 1000 {
		key := strings.Repeat("h", i)
		if wholeNumber(key) >= 1<<31 {
			return key
		}
	}
	t.Fatal("no key has a number of 1<<31 or above")
	return ""
}

func TestTheChaptersExamples(t *testing.T) {
	if Number("") != 7 || Number("a") != 314 || Of("a", 4) != 2 {
		t.Errorf("P8.1: %d %d %d", Number(""), Number("a"), Of("a", 4))
	}
}

func TestNumberOfBytes(t *testing.T) {
	for _, x := range []struct {
		key  string
		want uint32
	}{
		{"\x00", 217},
		{"\x7f", 344},
		{"\x80", 345},
		{"\xff", 472},
		{"a\x00", 9734},
		{"a\x7f", 9861},
		{"a\x80", 9862},
		{"a\xff", 9989},
		{"\x00\x00", 6727},
		{"\x00\xff", 6982},
		{"\xff\x00", 14632},
		{"\xff\xff", 14887},
		{"\x80\x7f", 10822},
		{"é", (217+0xc3)*31 + 0xa9},
		{"ab", 9832},
		{"ba", 9862},
	} {
		if got := Number(x.key); got != x.want {
			t.Errorf("P8.1: Number(%q) is %d, not %d", x.key, got, x.want)
		}
	}
}

func TestNumberGoesRound(t *testing.T) {
	for _, key := range []string{
		"zzzzzz",
		"zzzzzzz",
		strings.Repeat("\xff", 7),
		strings.Repeat("\x00", api.MaxKey),
		strings.Repeat("\xff", api.MaxKey),
		strings.Repeat("\x80a", 40),
		strings.Repeat("long", 500),
	} {
		if got, want := Number(key), wholeNumber(key); got != want {
			t.Errorf("P8.1: Number of %d bytes %q.. is %d, not %d", len(key), key[:4], got, want)
		}
	}
	r := rand.New(rand.NewSource(81))
	for range 500 {
		key := drawnKey(r, 60)
		if got, want := Number(key), wholeNumber(key); got != want {
			t.Fatalf("P8.1: Number(%q) is %d, not %d", key, got, want)
		}
	}
}

func TestNumberOfOneByteMore(t *testing.T) {
	r := rand.New(rand.NewSource(82))
	for range 40 {
		key := drawnKey(r, 30)
		for b := range 256 {
			more := key + string([]byte{byte(b)})
			if Number(more) != 31*Number(key)+uint32(b) {
				t.Fatalf("P8.1: Number(%q) is %d, with byte %d behind it %d", key, Number(key), b, Number(more))
			}
		}
	}
}

func TestNumberOfLongKey(t *testing.T) {
	key := strings.Repeat("0123456789", 100000)
	want := uint32(7)
	for i := range len(key) {
		want = want*31 + '0' + uint32(i%10)
	}
	if got := Number(key); got != want {
		t.Errorf("P8.1: Number of a million bytes is %d, not %d", got, want)
	}
}

func TestOfAtEdges(t *testing.T) {
	high := highKey(t)
	whole := int(wholeNumber(high))
	for _, x := range []struct {
		key         string
		parts, want int
	}{
		{"", 1, 0},
		{"a", 1, 0},
		{high, 1, 0},
		{"", 7, 0},
		{"", 8, 7},
		{"", 2, 1},
		{"a", 3, 2},
		{"a", 313, 1},
		{"a", 314, 0},
		{"a", 315, 314},
		{"a", 0, -1},
		{"", 0, -1},
		{"a", -1, -1},
		{"a", -4, -1},
		{high, -1, -1},
		{"a", math.MinInt32, -1},
		{"a", math.MinInt, -1},
		{high, math.MinInt, -1},
		{"a", math.MaxInt, 314},
		{"a", 1 << 32, 314},
		{high, 3, whole % 3},
		{high, 4, whole % 4},
		{high, math.MaxInt32, whole - math.MaxInt32},
		{high, 1 << 31, whole - 1<<31},
		{high, whole - 1, 1},
		{high, whole, 0},
		{high, whole + 1, whole},
		{high, math.MaxUint32, whole},
		{high, 1 << 32, whole},
		{high, 1<<32 + 1, whole},
		{high, 1<<33 + 2, whole},
		{high, 1 << 62, whole},
		{high, math.MaxInt, whole},
	} {
		if got := Of(x.key, x.parts); got != x.want {
			t.Errorf("P8.1: Of(%q, %d) is %d, not %d", x.key, x.parts, got, x.want)
		}
	}
}

func TestOfStaysInside(t *testing.T) {
	r := rand.New(rand.NewSource(83))
	seen := 0
	for range 5000 {
		key := drawnKey(r, 20)
		parts := 1 + r.Intn(1<<r.Intn(40))
		got := Of(key, parts)
		if got < 0 || got >= parts {
			t.Fatalf("P8.1: Of(%q, %d) is %d", key, parts, got)
		}
		if want := int(uint64(wholeNumber(key)) % uint64(parts)); got != want {
			t.Fatalf("P8.1: Of(%q, %d) is %d, not %d", key, parts, got, want)
		}
		if wholeNumber(key) >= 1<<31 {
			seen++
		}
	}
	if seen < 1000 {
		t.Errorf("only %d keys have a number of 1<<31 or above", seen)
	}
}

func TestOnly(t *testing.T) {
	// By four: "" 3, "a" 2, "b" 3, "c" 0, "d" 1.
	ps := list("a:1", "b:2", ":3", "a:0", "c:4", "a:1", ":3", "b:1", "a:1")
	for _, x := range []struct {
		what     string
		parts, p int
		want     []api.Pair
	}{
		{"part 0", 4, 0, list("c:4")},
		{"a part without pairs", 4, 1, nil},
		{"part 2, one pair three times", 4, 2, list("a:1", "a:0", "a:1", "a:1")},
		{"the last part, of two keys", 4, 3, list("b:2", ":3", ":3", "b:1")},
		{"p of parts", 4, 4, nil},
		{"p of more than parts", 4, 7, nil},
		{"p of a number, not of what is left of it", 4, 314, nil},
		{"the greatest p", 4, math.MaxInt, nil},
		{"p of -1", 4, -1, nil},
		{"p of -2", 4, -2, nil},
		{"the least p", 4, math.MinInt, nil},
		{"one part", 1, 0, ps},
		{"one part, p of 1", 1, 1, nil},
		{"one part, p of -1", 1, -1, nil},
		{"more parts than there are numbers", math.MaxInt, 314, list("a:1", "a:0", "a:1", "a:1")},
		{"more parts than there are numbers, the empty key", math.MaxInt, 7, list(":3", ":3")},
		{"no parts, p of -1", 0, -1, ps},
		{"no parts, p of 0", 0, 0, nil},
		{"no parts, p of 1", 0, 1, nil},
		{"parts of -1, p of -1", -1, -1, ps},
		{"parts of -4, p of 2", -4, 2, nil},
		{"parts of -4, p of -2", -4, -2, nil},
		{"the least parts, p of -1", math.MinInt, -1, ps},
		{"the least parts, the least p", math.MinInt, math.MinInt, nil},
	} {
		if got := Only(ps, x.parts, x.p); !slices.Equal(got, x.want) {
			t.Errorf("P8.1: Only of %s tells %q, not %q", x.what, got, x.want)
		}
		if got := Only(nil, x.parts, x.p); len(got) != 0 {
			t.Errorf("P8.1: Only of no pairs, %s, tells %q", x.what, got)
		}
		if got := Only([]api.Pair{}, x.parts, x.p); len(got) != 0 {
			t.Errorf("P8.1: Only of an empty list, %s, tells %q", x.what, got)
		}
	}
}

func TestOnlyTakesPairsThatMayNotBe(t *testing.T) {
	key, value := strings.Repeat("k", 99), strings.Repeat("v", 99)
	ps := []api.Pair{{Key: key, Value: value}, {Key: "a"}, {Key: key}}
	got := Only(ps, 1<<40, int(wholeNumber(key)))
	if !slices.Equal(got, []api.Pair{{Key: key, Value: value}, {Key: key}}) {
		t.Errorf("P8.1: Only of long pairs tells %q", got)
	}
}

func TestEachPairIsOneParts(t *testing.T) {
	r := rand.New(rand.NewSource(84))
	for range 300 {
		ps := drawn(r, r.Intn(60))
		for i := range ps {
			// The place makes each pair told apart from the others.
			ps[i].Value += "@" + strconv.Itoa(i)
		}
		parts := 1 + r.Intn(9)
		told := map[api.Pair]int{}
		all := 0
		for p := range parts {
			only := Only(ps, parts, p)
			last := -1
			for _, x := range only {
				at := slices.Index(ps, x)
				if at <= last {
					t.Fatalf("P8.2: part %d of %d tells %q behind place %d", p, parts, x, last)
				}
				last = at
				told[x]++
			}
			all += len(only)
		}
		if all != len(ps) || len(told) != len(ps) {
			t.Fatalf("P8.2: of %d pairs %d are told, %d of them apart, by %d parts", len(ps), all, len(told), parts)
		}
	}
}

func TestPairsThatStandTwiceAreToldTwice(t *testing.T) {
	r := rand.New(rand.NewSource(85))
	for range 300 {
		ps := drawn(r, r.Intn(60))
		parts := 1 + r.Intn(5)
		rest := slices.Clone(ps)
		for p := range parts {
			for _, x := range Only(ps, parts, p) {
				at := slices.Index(rest, x)
				if at < 0 {
					t.Fatalf("P8.2: %q is told once too often by %d parts", x, parts)
				}
				rest = slices.Delete(rest, at, at+1)
			}
		}
		if len(rest) != 0 {
			t.Fatalf("P8.2: %q are told by none of %d parts", rest, parts)
		}
	}
}

func TestArgumentsStay(t *testing.T) {
	ps := roomy(list("c:1", "a:2", ":3", "c:0", "b:4"))
	whole := slices.Clone(ps[:cap(ps)])
	for parts := -1; parts < 6; parts++ {
		for p := -1; p < 6; p++ {
			Only(ps, parts, p)
			Only(ps[:2], parts, p)
		}
	}
	if !slices.Equal(ps[:cap(ps)], whole) {
		t.Errorf("R4: what was handed in is now %q", ps[:cap(ps)])
	}
}

func TestAnswersAreNewMemory(t *testing.T) {
	for _, x := range []struct {
		what     string
		ps       []api.Pair
		parts, p int
	}{
		{"all of one part", list("c:1", "a:2", ":3"), 1, 0},
		{"all of no parts", list("c:1", "a:2", ":3"), 0, -1},
		{"some at the beginning", list("a:1", "a:2", "c:3"), 4, 2},
		{"some at the end", list("c:3", "a:1", "a:2"), 4, 2},
		{"one alone", list("a:1"), 4, 2},
		{"none", list("a:1", "c:2"), 4, 1},
		{"none of none", nil, 4, 1},
	} {
		ps := roomy(x.ps)
		whole := slices.Clone(ps[:cap(ps)])
		first, second := Only(ps, x.parts, x.p), Only(ps, x.parts, x.p)
		want := slices.Clone(first)
		spoil(first)
		if !slices.Equal(ps[:cap(ps)], whole) {
			t.Errorf("R4: %s: a change to what was answered turns what was handed in: %q", x.what, ps[:cap(ps)])
		}
		if !slices.Equal(second, want) || !slices.Equal(Only(ps, x.parts, x.p), want) {
			t.Errorf("R4: %s: a change to what was answered turns another answer", x.what)
		}
		spoil(ps)
		if !slices.Equal(second, want) {
			t.Errorf("R4: %s: a change to what was handed in turns an answer: %q", x.what, second)
		}
	}
}

func TestSeveralGoroutines(t *testing.T) {
	ps := roomy(drawn(rand.New(rand.NewSource(86)), 80))
	want := Only(ps, 3, 1)
	var all sync.WaitGroup
	for range 8 {
		all.Add(1)
		go func() {
			defer all.Done()
			for range 50 {
				if !slices.Equal(Only(ps, 3, 1), want) || Number("a") != 314 || Of("a", 4) != 2 {
					t.Error("R5: another answer beside other goroutines")
					return
				}
			}
		}()
	}
	all.Wait()
}
