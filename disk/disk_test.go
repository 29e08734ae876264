package disk

import (
	"bytes"
	"math"
	"math/big"
	"slices"
	"testing"
	"time"
)

// edges are numbers at the edges of their type, and about 0.
func edges() []int {
	return []int{
		math.MinInt, math.MinInt + 1, math.MinInt / 2, math.MinInt32 - 1, math.MinInt32, -256, -8, -7, -6, -5, -4, -3, -2, -1,
		0, 1, 2, 3, 4, 5, 6, 7, 8, 255, 256, 257,
		math.MaxInt32, math.MaxInt32 + 1, math.MaxUint32, math.MaxUint32 + 1, 1<<62 - 1, 1 << 62, math.MaxInt - 1, math.MaxInt,
	}
}

// with answers a disk of some bytes that are synced, and some that are not.
func with(synced, unsynced string) *Disk {
	d := New()
	d.Append([]byte(synced))
	d.Sync()
	d.Append([]byte(unsynced))
	return d
}

// ask holds d against the bytes that are to be there, synced and not.
func ask(t *testing.T, what string, d *Disk, synced, unsynced string) {
	t.Helper()
	if got := d.Bytes(); string(got) != synced+unsynced {
		t.Errorf("P14.1: %s: Bytes: %q, not %q", what, got, synced+unsynced)
	}
	if got := d.Synced(); got != len(synced) {
		t.Errorf("P14.1: %s: Synced: %d, not %d", what, got, len(synced))
	}
	if got := d.Unsynced(); got != len(unsynced) {
		t.Errorf("P14.1: %s: Unsynced: %d, not %d", what, got, len(unsynced))
	}
}

// stays tells what is left of keep by n and 1, in numbers that never go round:
// as unsigned a keep below 0 is 2^64 more.
func stays(keep, n int) int {
	number := big.NewInt(int64(keep))
	if keep < 0 {
		number.Add(number, new(big.Int).Lsh(big.NewInt(1), 64))
	}
	return int(number.Mod(number, big.NewInt(int64(n)+1)).Int64())
}

// roomy answers s's bytes with spare room behind them, filled with bytes to be
// watched.
func roomy(s string) []byte { return []byte(s + "spare room")[:len(s)] }

// spoil writes over all that b has room for.
func spoil(b []byte) {
	b = b[:cap(b)]
	for i := range b {
		b[i] = '#'
	}
}

func TestTheChaptersExample(t *testing.T) {
	d := New()
	d.Append([]byte{1, 2, 3})
	d.Sync()
	d.Append([]byte{4, 5})
	d.Crash(1)
	ask(t, "the example", d, "\x01\x02\x03\x04", "")
}

func TestNew(t *testing.T) {
	d := New()
	if d == nil {
		t.Fatal("P14.1: New: nil")
	}
	ask(t, "a new one", d, "", "")
}

func TestDisksAreTheirOwn(t *testing.T) {
	a, b := New(), New()
	a.Append([]byte("one"))
	b.Append([]byte("another"))
	b.Sync()
	ask(t, "one", a, "", "one")
	ask(t, "another", b, "another", "")
	a.Crash(0)
	ask(t, "one that crashed", a, "", "")
	ask(t, "another", b, "another", "")
	b.Cut(2)
	ask(t, "another that was cut", b, "an", "")
	ask(t, "one", a, "", "")
}

func TestAppend(t *testing.T) {
	d := New()
	d.Append([]byte("ab"))
	ask(t, "the first bytes", d, "", "ab")
	d.Append([]byte("c"))
	ask(t, "bytes behind these", d, "", "abc")
	d.Sync()
	d.Append([]byte("ba"))
	ask(t, "bytes behind synced ones", d, "abc", "ba")
	d.Append([]byte("ab"))
	ask(t, "bytes behind others", d, "abc", "baab")
}

func TestAppendOfNoBytes(t *testing.T) {
	for what, none := range map[string][]byte{"nil": nil, "an empty list": {}, "an empty list with spare room": roomy("")} {
		d := New()
		d.Append(none)
		ask(t, what+" to a new one", d, "", "")
		d = with("ab", "c")
		d.Append(none)
		ask(t, what, d, "ab", "c")
	}
}

func TestAppendOfEveryByte(t *testing.T) {
	var all []byte
	for b := range 256 {
		all = append(all, byte(b))
	}
	d := New()
	d.Append(all)
	ask(t, "every byte", d, "", string(all))
	d.Sync()
	for _, b := range all {
		d.Append([]byte{b})
	}
	ask(t, "every byte, one by one", d, string(all), string(all))
}

func TestAppendLeavesWhatIsHandedIn(t *testing.T) {
	d := with("ab", "")
	in := roomy("cd")
	d.Append(in)
	d.Append([]byte("ef"))
	d.Sync()
	d.Cut(3)
	d.Append([]byte("ghijkl"))
	spoil(d.Bytes())
	if got := string(in[:cap(in)][:len("cdspare room")]); got != "cdspare room" {
		t.Errorf("R4: what was handed in is %q", got)
	}
}

func TestAppendKeepsNothingHandedIn(t *testing.T) {
	d := New()
	in := roomy("ab")
	d.Append(in)
	spoil(in)
	ask(t, "the first bytes, changed by the caller", d, "", "ab")
	in = roomy("cd")
	d.Append(in)
	spoil(in)
	ask(t, "later bytes, changed by the caller", d, "", "abcd")
	d.Cut(0)
	in = roomy("ef")
	d.Append(in)
	in = append(in, "gh"...)
	spoil(in)
	ask(t, "bytes behind none, changed by the caller", d, "", "ef")
}

func TestAppendOfItsOwnBytes(t *testing.T) {
	d := with("ab", "c")
	d.Append(d.Bytes())
	ask(t, "its own bytes", d, "ab", "cabc")
	d.Append(d.Bytes()[1:3])
	ask(t, "a piece of its own bytes", d, "ab", "cabcbc")
}

func TestSync(t *testing.T) {
	d := New()
	d.Sync()
	ask(t, "a new one", d, "", "")
	d.Append([]byte("ab"))
	d.Sync()
	ask(t, "all of it", d, "ab", "")
	d.Sync()
	ask(t, "where all is", d, "ab", "")
	d.Append([]byte("cd"))
	d.Append([]byte("e"))
	d.Sync()
	ask(t, "what came since", d, "abcde", "")
	d.Cut(0)
	d.Sync()
	ask(t, "one that was cut to none", d, "", "")
}

func TestCrashOfEveryKeep(t *testing.T) {
	const all = "abcdefg"
	for synced := range len(all) + 1 {
		for n := range len(all) - synced + 1 {
			keeps := edges()
			for keep := range 3*n + 5 {
				keeps = append(keeps, keep, -keep, math.MaxInt-keep, math.MinInt+keep)
			}
			for _, keep := range keeps {
				d := with(all[:synced], all[synced:synced+n])
				d.Crash(keep)
				ask(t, "Crash", d, all[:synced+stays(keep, n)], "")
				if t.Failed() {
					t.Fatalf("P14.1: Crash(%d) of %d synced and %d that are not", keep, synced, n)
				}
			}
		}
	}
}

func TestCrashInPlainNumbers(t *testing.T) {
	for _, x := range []struct {
		keep int
		left string
	}{
		{0, "ab"}, {1, "abc"}, {2, "abcd"}, {3, "abcde"}, {4, "ab"}, {5, "abc"}, {7, "abcde"}, {8, "ab"}, {4_000_000_002, "abcd"},
		// By 4: 2^64 - 1 leaves 3, 2^64 - 4 and 2^63 leave 0, 2^63 - 1 leaves 3.
		{-1, "abcde"}, {-2, "abcd"}, {-3, "abc"}, {-4, "ab"}, {-5, "abcde"}, {math.MinInt, "ab"}, {math.MinInt + 1, "abc"}, {math.MaxInt, "abcde"},
	} {
		d := with("ab", "cde")
		d.Crash(x.keep)
		ask(t, "Crash", d, x.left, "")
	}
	// By 3: 2^64 - 1 and 2^63 - 2 leave 0, 2^63 - 1 leaves 1, 2^64 - 2 and 2^63 leave 2.
	for keep, left := range map[int]string{-1: "", -2: "ab", -3: "a", math.MinInt: "ab", math.MaxInt: "a", math.MaxInt - 1: ""} {
		d := with("", "ab")
		d.Crash(keep)
		ask(t, "Crash of what was never synced", d, left, "")
	}
}

func TestCrashWhereAllIsSynced(t *testing.T) {
	for _, keep := range edges() {
		d := New()
		d.Crash(keep)
		ask(t, "Crash of a new one", d, "", "")
		d = with("ab", "")
		d.Crash(keep)
		ask(t, "Crash where all is synced", d, "ab", "")
	}
}

func TestCrashBehindCrash(t *testing.T) {
	d := with("ab", "cdef")
	d.Crash(2)
	ask(t, "the first crash", d, "abcd", "")
	d.Crash(0)
	ask(t, "a crash of what a crash left", d, "abcd", "")
	d.Append([]byte("xyz"))
	ask(t, "what came since", d, "abcd", "xyz")
	d.Crash(1)
	ask(t, "a later crash", d, "abcdx", "")
	d.Append([]byte("pq"))
	d.Crash(math.MinInt)
	ask(t, "the last crash", d, "abcdxpq", "")
}

func TestCutOfEveryNumber(t *testing.T) {
	const all = "abcdefg"
	for synced := range len(all) + 1 {
		numbers := edges()
		for n := range len(all) + 3 {
			numbers = append(numbers, n, -n)
		}
		for _, n := range numbers {
			d := with(all[:synced], all[synced:])
			got := d.Cut(n)
			if want := n >= 0 && n <= len(all); got != want {
				t.Errorf("P14.1: Cut(%d) of %d: %v", n, len(all), got)
			} else if want {
				ask(t, "Cut", d, all[:n], "")
			} else {
				ask(t, "a Cut that may not be", d, all[:synced], all[synced:])
			}
			if t.Failed() {
				t.Fatalf("P14.1: Cut(%d) of %d synced among %d", n, synced, len(all))
			}
		}
	}
}

func TestCutOfNoBytes(t *testing.T) {
	for _, n := range edges() {
		d := New()
		if got := d.Cut(n); got != (n == 0) {
			t.Errorf("P14.1: Cut(%d) of a new one: %v", n, got)
		}
		ask(t, "Cut of a new one", d, "", "")
	}
}

func TestAppendBehindCut(t *testing.T) {
	d := with("abcd", "efgh")
	if !d.Cut(6) || !d.Cut(6) {
		t.Error("P14.1: Cut(6): false")
	}
	ask(t, "Cut in the midst of what is not synced", d, "abcdef", "")
	d.Append([]byte("x"))
	ask(t, "bytes behind it", d, "abcdef", "x")
	if d.Cut(8) {
		t.Error("P14.1: Cut(8) of 7 bytes, where there once were 8: true")
	}
	ask(t, "Cut to what was there once", d, "abcdef", "x")
	if !d.Cut(2) {
		t.Error("P14.1: Cut(2): false")
	}
	d.Append([]byte("yz"))
	d.Crash(1)
	ask(t, "a crash behind a cut", d, "aby", "")
}

func TestWhatWasSyncedStands(t *testing.T) {
	d, kept := New(), ""
	for i, keep := range edges() {
		piece := string(rune('a'+i%26)) + "-"
		d.Append([]byte(piece))
		d.Sync()
		kept += piece
		d.Append([]byte("lost?"))
		d.Crash(keep)
		kept += "lost?"[:stays(keep, 5)]
		ask(t, "what was synced ahead of a crash", d, kept, "")
	}
}

func TestWhatBytesAnswersIsItsOwn(t *testing.T) {
	d := with("abc", "de")
	first, second := d.Bytes(), d.Bytes()
	spoil(first)
	first = append(first, "more"...)
	spoil(first)
	ask(t, "its answer written over", d, "abc", "de")
	if string(second) != "abcde" {
		t.Errorf("R4: an answer was changed with another: %q", second)
	}
	spoil(append(d.Bytes(), 'x'))
	d.Append([]byte("fg"))
	ask(t, "its answer appended to", d, "abc", "defg")
	other := append(d.Bytes(), 'y')
	d.Append([]byte("h"))
	if string(other) != "abcdefgy" {
		t.Errorf("R4: what was appended to an answer is %q", other)
	}
}

func TestBytesStandWhateverComes(t *testing.T) {
	d := with("abc", "de")
	want := "abcde"
	got := d.Bytes()
	for _, act := range []struct {
		what string
		do   func()
	}{
		{"Append", func() { d.Append([]byte("xyz")) }},
		{"Sync", d.Sync},
		{"Crash", func() { d.Append([]byte("uvw")); d.Crash(0); d.Append([]byte("rst")) }},
		{"Cut", func() { d.Cut(0); d.Append([]byte("#################")) }},
	} {
		act.do()
		if string(got) != want {
			t.Errorf("R4: behind %s an earlier answer is %q", act.what, got)
		}
	}
	ask(t, "all of these", d, "", "#################")
	d = with("abc", "")
	d.Cut(0)
	none := d.Bytes()
	d.Append([]byte("xyz"))
	none = append(none, "abc"...)
	ask(t, "appended to an answer of none", d, "", "xyz")
	if string(none) != "abc" {
		t.Errorf("R4: an answer of none, appended to: %q", none)
	}
	if got := New().Bytes(); len(got) != 0 {
		t.Errorf("P14.1: Bytes of a new one: %q", got)
	}
}

func TestAskingChangesNothing(t *testing.T) {
	d := with("abc", "de")
	for range 3 {
		d.Bytes()
		d.Synced()
		d.Unsynced()
		ask(t, "asked again", d, "abc", "de")
	}
	d.Crash(1)
	ask(t, "a crash of one that was asked", d, "abcd", "")
}

func TestNilDisk(t *testing.T) {
	var none *Disk
	for _, b := range [][]byte{nil, {}, {1}, roomy("ab")} {
		before := slices.Clone(b[:cap(b)])
		none.Append(b)
		if !bytes.Equal(b[:cap(b)], before) {
			t.Errorf("R4: %q, handed to no disk, is %q", before, b)
		}
	}
	none.Sync()
	for _, n := range edges() {
		none.Crash(n)
		if none.Cut(n) {
			t.Errorf("R3: Cut(%d): true", n)
		}
	}
	if got := none.Bytes(); len(got) != 0 {
		t.Errorf("R3: Bytes: %q", got)
	}
	if got := none.Synced(); got != 0 {
		t.Errorf("R3: Synced: %d", got)
	}
	if got := none.Unsynced(); got != 0 {
		t.Errorf("R3: Unsynced: %d", got)
	}
}

// TestSizes does many acts, and acts on many bytes: all ends in a time that
// the sizes explain.
func TestSizes(t *testing.T) {
	begun := time.Now()
	d := New()
	const pieces = 1 << 20
	for range pieces {
		d.Append([]byte{1})
		d.Sync()
	}
	if d.Synced() != pieces || d.Unsynced() != 0 {
		t.Errorf("P14.1: %d and %d of %d bytes, one by one", d.Synced(), d.Unsynced(), pieces)
	}
	great := make([]byte, 1<<24)
	d.Append(great)
	d.Crash(1<<24 - 1)
	if d.Synced() != pieces+1<<24-1 || len(d.Bytes()) != d.Synced() {
		t.Errorf("P14.1: %d bytes behind a crash of a great disk", d.Synced())
	}
	for n := d.Synced(); n > 1<<24; n-- {
		if !d.Cut(n) {
			t.Fatalf("P14.1: Cut(%d): false", n)
		}
		d.Append([]byte{1, 2})
		d.Crash(n)
	}
	if took := time.Since(begun); took > 5*time.Second {
		t.Errorf("R1: the greatest sizes took %v", took)
	}
}
