package disk

import (
	"math/rand"
	"strconv"
	"testing"
)

// The disk once more, by the chapter's words alone: a byte at a time, each
// with a word of its own for whether it is synced.

type byteByWords struct {
	b      byte
	synced bool
}

type diskByWords []byteByWords

func (d diskByWords) text(synced bool) string {
	s := ""
	for _, x := range d {
		if x.synced == synced {
			s += string([]byte{x.b})
		}
	}
	return s
}

func (d diskByWords) appended(b []byte) diskByWords {
	for _, x := range b {
		d = append(d, byteByWords{b: x})
	}
	return d
}

func (d diskByWords) allSynced() diskByWords {
	var all diskByWords
	for _, x := range d {
		all = append(all, byteByWords{x.b, true})
	}
	return all
}

func (d diskByWords) crashed(keep int) diskByWords {
	stay := stays(keep, len(d.text(false)))
	var left diskByWords
	for _, x := range d {
		if x.synced {
			left = append(left, x)
		} else if stay > 0 {
			left, stay = append(left, x), stay-1
		}
	}
	return left.allSynced()
}

func (d diskByWords) cut(n int) (diskByWords, bool) {
	if n < 0 || n > len(d) {
		return d, false
	}
	return d[:n].allSynced(), true
}

// drawnNumber answers a small number most times, else one of any size.
func drawnNumber(r *rand.Rand) int {
	switch r.Intn(8) {
	case 0:
		return int(r.Uint64())
	case 1:
		return edges()[r.Intn(len(edges()))]
	}
	return r.Intn(14) - 2
}

// drawnBytes answers some bytes, with spare room behind them.
func drawnBytes(r *rand.Rand) []byte {
	b := make([]byte, r.Intn(6), 9)
	for i := range b {
		b[i] = byte(r.Intn(256))
	}
	return b
}

func TestAsTheWordsGo(t *testing.T) {
	r := rand.New(rand.NewSource(14))
	var lost, kept, cuts, refused int
	for range 1000 {
		d, words, acts := New(), diskByWords(nil), ""
		var answers [][]byte
		var said []string
		for range 60 {
			switch r.Intn(8) {
			default:
				b := drawnBytes(r)
				acts += " Append " + strconv.Itoa(len(b))
				d.Append(b)
				words = words.appended(b)
				spoil(b)
			case 4:
				acts += " Sync"
				d.Sync()
				words = words.allSynced()
			case 5:
				keep := drawnNumber(r)
				acts += " Crash " + strconv.Itoa(keep)
				before, stood := len(words), len(words.text(true))
				d.Crash(keep)
				words = words.crashed(keep)
				lost, kept = lost+before-len(words), kept+len(words)-stood
			case 6:
				n := drawnNumber(r)
				acts += " Cut " + strconv.Itoa(n)
				got := d.Cut(n)
				left, want := words.cut(n)
				if got != want {
					t.Errorf("P14.1: Cut: %v, not %v", got, want)
				}
				words, cuts = left, cuts+1
				if !want {
					refused++
				}
			case 7:
				answers, said = append(answers, d.Bytes()), append(said, words.text(true)+words.text(false))
				spoil(d.Bytes())
			}
			ask(t, "drawn", d, words.text(true), words.text(false))
			if t.Failed() {
				t.Fatalf("the acts:%s", acts)
			}
		}
		for i, b := range answers {
			if string(b) != said[i] {
				t.Fatalf("R4: answer %d is %q, and was %q; the acts:%s", i, b, said[i], acts)
			}
		}
	}
	for _, n := range []int{lost, kept, cuts - refused, refused} {
		if n < 1000 {
			t.Errorf("what was drawn is too much alike: %d lost, %d kept, %d cuts, %d of them refused", lost, kept, cuts, refused)
		}
	}
}
