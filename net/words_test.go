package net

import (
	"math/rand"
	"slices"
	"strconv"
	"testing"

	"staithe/api"
)

// The net once more, by the chapter's words alone: a plain list of letters,
// each of which has memory of its own.

type netByWords []api.Letter

func apart(l api.Letter) api.Letter {
	l.Msg.Set, l.Msg.Pairs = slices.Clone(l.Msg.Set), slices.Clone(l.Msg.Pairs)
	return l
}

func (n netByWords) sent(ls []api.Letter) (netByWords, int) {
	lost := 0
	for _, l := range ls {
		if len(n) < most {
			n = append(n, apart(l))
		} else {
			lost++
		}
	}
	return n, lost
}

func (n netByWords) taken(i int) (netByWords, api.Letter, bool) {
	var stay netByWords
	var l api.Letter
	found := false
	for at, x := range n {
		if at == i {
			l, found = x, true
		} else {
			stay = append(stay, x)
		}
	}
	return stay, l, found
}

func (n netByWords) doubled(i int) (netByWords, bool) {
	for at, x := range n {
		if at == i && len(n) < most {
			return append(n, apart(x)), true
		}
	}
	return n, false
}

// drawnLetter answers a letter of small numbers; many of its lists are none.
func drawnLetter(r *rand.Rand) api.Letter {
	l := bare(r.Intn(90))
	l.From, l.To = r.Intn(5), r.Intn(5)
	for range r.Intn(4) {
		l.Msg.Set = append(l.Msg.Set, r.Intn(9)-2)
	}
	for range max(0, r.Intn(5)-1) {
		l.Msg.Pairs = append(l.Msg.Pairs, api.Pair{Key: strconv.Itoa(r.Intn(9)), Value: strconv.Itoa(r.Intn(9))})
	}
	return roomyLetters(l)[0]
}

// drawnPlace answers a place of n letters most times, else any number.
func drawnPlace(r *rand.Rand, n int) int {
	switch r.Intn(10) {
	case 0:
		return edges()[r.Intn(len(edges()))]
	case 1:
		return n + r.Intn(3) - 1
	case 2:
		return r.Intn(3) - 1
	}
	return r.Intn(n + 1)
}

// drawnCall calls n and words alike, and answers the call's name, and what of
// its answer is n's, to be held against later.
func drawnCall(t *testing.T, r *rand.Rand, n *Net, words netByWords, filling bool) (netByWords, string, []api.Letter) {
	kind := r.Intn(12)
	if filling && kind < 6 {
		kind = 0
	}
	switch {
	case kind < 4:
		ls := make([]api.Letter, r.Intn(8))
		if r.Intn(20) == 0 {
			ls = make([]api.Letter, r.Intn(2*most))
		}
		for i := range ls {
			ls[i] = drawnLetter(r)
		}
		then, lost := words.sent(ls)
		send(t, n, lost, ls...)
		spoilAll(ls)
		if lost > 0 {
			return then, "Send, some lost", nil
		}
		return then, "Send", nil
	case kind < 9:
		i := drawnPlace(r, len(words))
		then, want, ok := words.taken(i)
		if !ok {
			takeNone(t, n, i)
			return words, "Take of no place", nil
		}
		return then, "Take", []api.Letter{take(t, n, i, want)}
	case kind < 11:
		i := drawnPlace(r, len(words))
		then, ok := words.doubled(i)
		double(t, n, i, ok)
		switch {
		case ok:
			return then, "Double", nil
		case i >= 0 && i < len(words):
			return then, "Double without room", nil
		}
		return then, "Double of no place", nil
	}
	return words, "List", n.List()
}

func TestAsTheWordsGo(t *testing.T) {
	r := rand.New(rand.NewSource(16))
	count := map[string]int{}
	for row := range 40 {
		n, words := New(), netByWords(nil)
		var answers, said [][]api.Letter
		for call := range 600 {
			then, name, got := drawnCall(t, r, n, words, (row+call/100)%2 == 0)
			words = then
			count[name]++
			ask(t, name, n, words...)
			if t.Failed() {
				t.Fatalf("P16.1: row %d, call %d: %s", row, call, name)
			}
			if r.Intn(2) == 0 {
				spoilAll(got)
				continue
			}
			var kept []api.Letter
			for _, l := range got {
				kept = append(kept, apart(l))
			}
			answers, said = append(answers, got), append(said, kept)
		}
		for i, got := range answers {
			stands(t, "drawn calls", got, said[i]...)
		}
	}
	for _, name := range []string{"Send", "Send, some lost", "Take", "Take of no place", "Double", "Double without room", "Double of no place", "List"} {
		if count[name] < 200 {
			t.Errorf("what was drawn is too much alike: %d of %s", count[name], name)
		}
	}
}
