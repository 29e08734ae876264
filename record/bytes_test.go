package record

import (
	"slices"
	"strconv"
	"strings"
	"testing"

	"staithe/api"
)

// checkRead holds what Read tells of b against the records that are to be
// read, and how many bytes these have.
func checkRead(t *testing.T, what string, b string, want []api.Record, at int) {
	t.Helper()
	rs, got := Read([]byte(b))
	if !alike(rs, want) || got != at {
		t.Errorf("P15.1: Read of %s: %+v, %d, not %+v, %d", what, rs, got, want, at)
	}
}

func TestTheChaptersExamples(t *testing.T) {
	want := make([]byte, 64)
	want[7], want[15] = 56, 2
	got := Lay(api.Record{Kind: commit})
	if string(got) != string(want) {
		t.Errorf("P15.1: Lay(RecCommit): %v", got)
	}
	b := append(Lay(api.Record{Kind: life}), 1, 2, 3)
	checkRead(t, "RecLife, and 3 bytes", string(b), []api.Record{{Kind: life}}, 64)
}

// TestLayNumberByNumber has the bytes of each kind written out: numbers of 8
// bytes, and texts.
func TestLayNumberByNumber(t *testing.T) {
	for _, x := range []struct {
		r    api.Record
		want []any
	}{
		{api.Record{Kind: won, Split: 4, Attempt: 2, Set: []int{3, 0, 40}}, []any{80, 1, 0, 4, 2, 0, 3, 3, 0, 40, 0}},
		{api.Record{Kind: won, Attempt: 1}, []any{56, 1, 0, 0, 1, 0, 0, 0}},
		{api.Record{Kind: commit}, []any{56, 2, 0, 0, 0, 0, 0, 0}},
		{api.Record{Kind: over, Reason: 4, Split: 3}, []any{56, 3, 0, 3, 0, 4, 0, 0}},
		{api.Record{Kind: over, Reason: 6, Part: 2, Attempt: 1}, []any{56, 3, 2, 0, 1, 6, 0, 0}},
		{api.Record{Kind: merged, Part: 3, Split: 5, Attempt: 2}, []any{56, 4, 3, 5, 2, 0, 0, 0}},
		{api.Record{Kind: merged, Part: 3, Split: 5, Attempt: 2, Pairs: []api.Pair{{Key: "b", Value: "xyz"}, {Key: "", Value: ""}, {Key: "a\x00\xff", Value: "é"}}},
			[]any{113, 4, 3, 5, 2, 0, 0, 3, 1, "b", 3, "xyz", 0, "", 0, "", 3, "a\x00\xff", 2, "\xc3\xa9"}},
		{api.Record{Kind: snap, Part: 1, Set: []int{0, 2, 5}}, []any{80, 5, 1, 0, 0, 0, 3, 0, 2, 5, 0}},
		{api.Record{Kind: life}, []any{56, 6, 0, 0, 0, 0, 0, 0}},
	} {
		want := ""
		for _, w := range x.want {
			switch w := w.(type) {
			case int:
				want += "\x00\x00\x00\x00\x00\x00\x00" + string([]byte{byte(w)})
			case string:
				want += w
			}
		}
		if got := string(Lay(x.r)); got != want {
			t.Errorf("P15.1: Lay(%+v):\n%v, not\n%v", x.r, []byte(got), []byte(want))
		}
		checkRead(t, "one laid number by number", want, []api.Record{x.r}, len(want))
	}
}

func TestLayOfNone(t *testing.T) {
	if got := Lay(); len(got) != 0 {
		t.Errorf("P15.1: Lay(): %v", got)
	}
	if got := Lay([]api.Record{}...); len(got) != 0 {
		t.Errorf("P15.1: Lay of an empty list: %v", got)
	}
}

func TestLayOfOneAndOfSeveral(t *testing.T) {
	all := many()
	for i := range all {
		if got := string(Lay(all[i])); got != byHand(all[i]) {
			t.Errorf("P15.1: Lay(%+v): %v", all[i], []byte(got))
		}
		for k := i; k <= len(all); k++ {
			if got := string(Lay(all[i:k]...)); got != byHand(all[i:k]...) {
				t.Errorf("P15.1: Lay of records %d to below %d: %v", i, k, []byte(got))
			}
		}
	}
	r := all[0]
	if got := string(Lay(r, all[4], r, r)); got != byHand(r, all[4], r, r) {
		t.Errorf("P15.1: Lay of one record again and again: %v", []byte(got))
	}
}

// TestLayOfOneThatMayNotBe has it at each place among others.
func TestLayOfOneThatMayNotBe(t *testing.T) {
	for _, wrong := range []api.Record{{}, {Kind: 7}, {Kind: -1}, {Kind: commit, Part: 1}, {Kind: won}, {Kind: snap, Set: []int{2, 1}}, {Kind: merged, Attempt: 1, Pairs: make([]api.Pair, 41)}} {
		if got := Lay(wrong); len(got) != 0 {
			t.Errorf("P15.1: Lay(%+v): %v", wrong, got)
		}
		for n := range 5 {
			for i := range n + 1 {
				rs := slices.Insert(many()[:n], i, wrong)
				if got := Lay(rs...); len(got) != 0 {
					t.Errorf("P15.1: Lay of %d records, %+v at %d: %v", n+1, wrong, i, got)
				}
			}
		}
	}
}

func TestReadOfNoBytes(t *testing.T) {
	for _, b := range [][]byte{nil, {}, roomy(nil, Lay(ones()...)...)} {
		if rs, at := Read(b); len(rs) != 0 || at != 0 {
			t.Errorf("P15.1: Read of no bytes: %+v, %d", rs, at)
		}
	}
}

func TestReadOfOneAndOfSeveral(t *testing.T) {
	all := many()
	for i := range all {
		for k := i; k <= len(all); k++ {
			b := byHand(all[i:k]...)
			checkRead(t, "several", b, all[i:k], len(b))
		}
	}
	b := byHand(all[4], all[4], all[0], all[4])
	checkRead(t, "one record again and again", b, []api.Record{all[4], all[4], all[0], all[4]}, len(b))
}

// TestReadEndsAtTheFirstThatIsNone has bytes that are no record behind others,
// and records behind these.
func TestReadEndsAtTheFirstThatIsNone(t *testing.T) {
	whole := byHand(ones()...)
	for n := range len(ones()) + 1 {
		first := ones()[:n]
		head := byHand(first...)
		for what, tail := range map[string]string{
			"a byte":                     "\x00",
			"7 bytes":                    "\x00\x00\x00\x00\x00\x00\x00",
			"no bytes of a record":       numberByHand(0),
			"bytes of none":              strings.Repeat("\xff", 100),
			"zeros":                      strings.Repeat("\x00", 100),
			"a kind that is none":        byHand(api.Record{Kind: 7}),
			"one that may not be":        byHand(api.Record{Kind: commit, Split: 1}),
			"too many bytes for what is": textByHand(bodyByHand(api.Record{Kind: life}) + "x"),
		} {
			checkRead(t, what+" behind others", head+tail, first, len(head))
			checkRead(t, what+" between others", head+tail+whole, first, len(head))
		}
	}
}

// TestABeginningOfRecords cuts the bytes of records at every place.
func TestABeginningOfRecords(t *testing.T) {
	reversed := many()
	slices.Reverse(reversed)
	for _, all := range [][]api.Record{many(), reversed, {many()[0]}} {
		b := Lay(all...)
		n, end := 0, 0
		for cut := range len(b) + 1 {
			for n < len(all) && end+len(byHand(all[n])) <= cut {
				end += len(byHand(all[n]))
				n++
			}
			// Both as a list that ends there, and as one with the rest as its room.
			for _, beginning := range [][]byte{b[:cut:cut], b[:cut]} {
				if rs, at := Read(beginning); !alike(rs, all[:n]) || !Same(rs, all[:n]) || at != end {
					t.Fatalf("P15.2: Read of the first %d bytes: %d records and %d, not %d and %d", cut, len(rs), at, n, end)
				}
			}
		}
		if n != len(all) || end != len(b) {
			t.Errorf("P15.2: the test saw %d records in %d bytes", n, end)
		}
	}
}

// TestEachByteChanged changes one byte of a record that stands between two
// others: the one ahead is read as it was, the one behind only where what was
// changed is still a record; what is read has just the bytes that are there.
func TestEachByteChanged(t *testing.T) {
	before, behind := api.Record{Kind: snap, Set: []int{3}}, api.Record{Kind: life}
	head, tail := byHand(before), byHand(behind)
	for _, r := range ones() {
		mid := byHand(r)
		for i := range mid {
			for _, by := range []byte{1, 2, 3, 4, 7, 8, 16, 32, 64, 127, 128, 129, 254, 255} {
				changed := mid[:i] + string([]byte{mid[i] + by}) + mid[i+1:]
				b := head + changed + tail
				rs, at := Read([]byte(b))
				if len(rs) == 0 || !alike(rs[:1], []api.Record{before}) || at > len(b) {
					t.Fatalf("P15.1: byte %d of %+v, %d more: %+v, %d", i, r, by, rs, at)
				}
				if got := byHand(rs...); got != b[:at] || alike(rs, []api.Record{before, r, behind}) {
					t.Fatalf("P15.1: byte %d of %+v, %d more: %+v, %d", i, r, by, rs, at)
				}
				want := 1
				if mayLaid(changed) {
					want = 3
				}
				if len(rs) != want {
					t.Fatalf("P15.1: byte %d of %+v, %d more: %d records, not %d", i, r, by, len(rs), want)
				}
				for _, r := range rs {
					if !May(r) {
						t.Fatalf("P15.1: Read tells %+v, which may not be", r)
					}
				}
			}
		}
	}
}

// TestReadOfNumbersOfBytes has every number that is wrong where the number of
// a record's bytes is laid.
func TestReadOfNumbersOfBytes(t *testing.T) {
	before := api.Record{Kind: won, Attempt: 1}
	head := byHand(before)
	for _, r := range ones() {
		body := bodyByHand(r)
		wrong := edges()
		for n := -3; n < len(body)+200; n++ {
			wrong = append(wrong, n)
		}
		for _, n := range wrong {
			if n == len(body) {
				continue
			}
			b := head + numberByHand(n) + body
			what := "a number of bytes that is " + strconv.Itoa(n) + " of " + strconv.Itoa(len(body))
			checkRead(t, what, b, []api.Record{before}, len(head))
			checkRead(t, what+", zeros behind it", b+strings.Repeat("\x00", 200), []api.Record{before}, len(head))
			checkRead(t, what+", records behind it", b+byHand(ones()...), []api.Record{before}, len(head))
			checkRead(t, what+", ahead of all", b[len(head):]+byHand(ones()...), nil, 0)
		}
	}
}

// TestReadOfBytesMoreOrLess has records whose number of bytes is what there
// is, but not just what their fields need.
func TestReadOfBytesMoreOrLess(t *testing.T) {
	for _, r := range ones() {
		body := bodyByHand(r)
		for n := range len(body) {
			checkRead(t, "bytes too few", textByHand(body[:n]), nil, 0)
			checkRead(t, "bytes too few, others behind", textByHand(body[:n])+body[n:]+byHand(ones()...), nil, 0)
		}
		for _, more := range []string{"\x00", "\xff", strings.Repeat("\x00", 8), strings.Repeat("\x00", 16), strings.Repeat("\x00", 64), body, byHand(r)} {
			checkRead(t, "bytes too many", textByHand(body+more), nil, 0)
			checkRead(t, "bytes too many, others behind", textByHand(body+more)+byHand(ones()...), nil, 0)
		}
	}
}

// withNumber answers b with n laid where the number at place i (in bytes) is.
func withNumber(b string, i, n int) string { return b[:i] + numberByHand(n) + b[i+8:] }

// TestReadOfCounts has counts of Set and of Pairs that are wrong, and bytes
// behind them as they would need, if there can be so many.
func TestReadOfCounts(t *testing.T) {
	const setAt, pairsAt = 48, 56 // in the bytes of one whose lists are none
	heads := []api.Record{{Kind: won, Attempt: 1}, {Kind: commit}, {Kind: over, Reason: 1}, {Kind: merged, Attempt: 1}, {Kind: snap}, {Kind: life}}
	for _, r := range heads {
		bare := bodyByHand(r)
		for _, n := range append(edges(), -3, -8, 7, 8, 40, 41, 48, 100) {
			for _, room := range []int{0, 8, 64, 1000, 8 * 101, 16 * 101} {
				spare := strings.Repeat("\x00", room)
				checkRead(t, "a wrong count of Set", textByHand(withNumber(bare, setAt-8, n)+spare), nil, 0)
				checkRead(t, "a wrong count of Set", withNumber(textByHand(bare), setAt, n)+spare, nil, 0)
				if n >= 0 && n <= 40 && r.Kind == merged {
					continue
				}
				checkRead(t, "a wrong count of Pairs", textByHand(withNumber(bare, pairsAt-8, n)+spare), nil, 0)
				checkRead(t, "a wrong count of Pairs", withNumber(textByHand(bare), pairsAt, n)+spare, nil, 0)
			}
		}
	}
	for n := range 60 {
		r := api.Record{Kind: won, Attempt: 1, Set: make([]int, n)}
		checkOne(t, r, n <= 4)
		r = api.Record{Kind: snap}
		for i := range n {
			r.Set = append(r.Set, i)
		}
		checkOne(t, r, n <= 6)
		r = api.Record{Kind: merged, Attempt: 1, Pairs: make([]api.Pair, n)}
		checkOne(t, r, n <= 40)
	}
}

// checkOne lays r by hand, and holds whether it is read against want.
func checkOne(t *testing.T, r api.Record, want bool) {
	t.Helper()
	b := byHand(r)
	for _, tail := range []string{"", "\x00", byHand(ones()...)} {
		rs, at := Read([]byte(b + tail))
		if want && (len(rs) == 0 || !alike(rs[:1], []api.Record{r})) || !want && (len(rs) != 0 || at != 0) {
			t.Errorf("P15.1: Read of %+v, laid by hand: %+v, %d", r, rs, at)
		}
	}
}

// TestReadOfTexts has lengths of keys and of values that are wrong.
func TestReadOfTexts(t *testing.T) {
	r := api.Record{Kind: merged, Attempt: 1, Pairs: []api.Pair{{Key: "abc", Value: "xyz"}, {Key: "def", Value: "uvw"}}}
	b := byHand(r)
	checkRead(t, "four texts", b, []api.Record{r}, len(b))
	for i := range 4 {
		at := headBytes + 11*i
		if b[at:at+8] != numberByHand(3) {
			t.Fatalf("the test looks at %v for a length", []byte(b[at:at+8]))
		}
		for _, n := range append(edges(), -3, -8, -11, 0, 1, 2, 4, 5, 8, 11, 14, 16, 17, 19, 22, 33, 64, 65) {
			changed := withNumber(b, at, n)
			checkRead(t, "a text's length that is wrong", changed, nil, 0)
			checkRead(t, "a text's length that is wrong, others behind", changed+byHand(ones()...), nil, 0)
		}
	}
	for _, n := range []int{15, 16, 17, 18, 63, 64, 65, 66, 100, 70000} {
		checkOne(t, api.Record{Kind: merged, Attempt: 1, Pairs: []api.Pair{{Key: strings.Repeat("k", n)}}}, n <= 16)
		checkOne(t, api.Record{Kind: merged, Attempt: 1, Pairs: []api.Pair{{Value: strings.Repeat("v", n)}}}, n <= 64)
	}
}

// TestReadOfThoseThatMayNotBe lays them by hand, other records ahead and behind.
func TestReadOfThoseThatMayNotBe(t *testing.T) {
	head := ones()[:2]
	for _, r := range many() {
		for name := range numbersOf(&r) {
			for _, n := range append(edges(), -4, 7, 8, 9, 41) {
				x := r
				*numbersOf(&x)[name] = n
				b := byHand(head...)
				checkRead(t, "one that may not be", b+byHand(x)+byHand(ones()...), head, len(b))
			}
		}
	}
}

func TestThereAndBack(t *testing.T) {
	r := api.Record{Kind: merged, Part: 3, Split: 5, Attempt: 1}
	for c := range 256 {
		key := string([]byte{byte(c), byte(c ^ 0x55)})
		r.Pairs = []api.Pair{{Key: key, Value: key + key}, {Key: strings.Repeat(key, 8), Value: strings.Repeat(key, 32)}}
		b := Lay(r)
		checkRead(t, "every byte", string(b), []api.Record{r}, len(b))
	}
	for n := range 41 {
		r.Pairs = somePairs(n)
		b := Lay(r, r)
		checkRead(t, "many pairs", string(b), []api.Record{r, r}, len(b))
	}
}
