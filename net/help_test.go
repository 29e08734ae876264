package net

import (
	"fmt"
	"math"
	"slices"
	"testing"

	"staithe/api"
)

// most is how many letters may be on their way, written out apart from package
// api: a bound that is taken by a wrong name is seen.
const most = 128

// edges are numbers at the edges of their type, about 0, and some that only by
// their low bits are small.
func edges() []int {
	return []int{
		math.MinInt, math.MinInt + 1, math.MinInt + most, math.MinInt32 - 1, math.MinInt32, -1 << 16, -256, -most - 1, -most, -3, -2, -1,
		most, most + 1, 255, 256, 257, 1 << 16, math.MaxInt32, math.MaxInt32 + 1, math.MaxUint32, math.MaxUint32 + 1, math.MaxUint32 + 2, 1 << 40, 1 << 62, math.MaxInt - 1, math.MaxInt,
	}
}

// letter answers a letter that is told apart from those of other numbers by
// each of its fields; no field is zero.
func letter(n int) api.Letter {
	at := 16 * (n + 1)
	return api.Letter{From: at, To: -at - 1, Msg: api.Message{
		Kind: at + 2, Split: at + 3, Attempt: -at - 4, Part: at + 5, Seq: at + 6, Next: at + 7, Epoch: at + 8, Reason: at + 9,
		Set:   []int{at + 10, -at, at + 11},
		Pairs: []api.Pair{{Key: string(rune(at)), Value: "v"}, {Key: "k", Value: string(rune(at))}},
	}}
}

// bare answers letter(n) with no lists.
func bare(n int) api.Letter {
	l := letter(n)
	l.Msg.Set, l.Msg.Pairs = nil, nil
	return l
}

// from answers the letters of so many numbers, from the first one on.
func from(first, n int) []api.Letter {
	var ls []api.Letter
	for i := range n {
		ls = append(ls, letter(first+i))
	}
	return ls
}

// with answers a net that was sent ls, all in one call.
func with(ls ...api.Letter) *Net {
	n := New()
	n.Send(ls...)
	return n
}

// same answers whether all fields of a and b are the same; a list that is
// empty and one that is nil are.
func same(a, b api.Letter) bool {
	numbers := func(l api.Letter) [10]int {
		m := l.Msg
		return [10]int{l.From, l.To, m.Kind, m.Split, m.Attempt, m.Part, m.Seq, m.Next, m.Epoch, m.Reason}
	}
	return numbers(a) == numbers(b) && slices.Equal(a.Msg.Set, b.Msg.Set) && slices.Equal(a.Msg.Pairs, b.Msg.Pairs)
}

// brief answers the beginning of what x is, whatever bytes are in it.
func brief(x any) string {
	s := fmt.Sprintf("%#v", x)
	return s[:min(len(s), 400)]
}

// unlike answers where got is not as want first, nothing if it is the same.
func unlike(got, want []api.Letter) string {
	if len(got) != len(want) {
		return fmt.Sprintf("%d letters, not %d", len(got), len(want))
	}
	for i := range want {
		if !same(got[i], want[i]) {
			return fmt.Sprintf("letter %d is %s, not %s", i, brief(got[i]), brief(want[i]))
		}
	}
	return ""
}

// ask holds n against the letters that are to be there.
func ask(t *testing.T, what string, n *Net, want ...api.Letter) {
	t.Helper()
	if got := n.Len(); got != len(want) {
		t.Errorf("P16.1: Len behind %s: %d, not %d", what, got, len(want))
	}
	if s := unlike(n.List(), want); s != "" {
		t.Errorf("P16.1: List behind %s: %s", what, s)
	}
}

// stands holds an earlier answer against what it was.
func stands(t *testing.T, what string, answer []api.Letter, was ...api.Letter) {
	t.Helper()
	if s := unlike(answer, was); s != "" {
		t.Errorf("R4: behind %s an earlier answer is another one: %s", what, s)
	}
}

// send holds how many of ls are lost against how many are to be.
func send(t *testing.T, n *Net, lost int, ls ...api.Letter) {
	t.Helper()
	if got := n.Send(ls...); got != lost {
		t.Errorf("P16.1: Send of %d letters: %d are lost, not %d", len(ls), got, lost)
	}
}

// take holds the letter at place i against the one that is to be there, and
// answers it.
func take(t *testing.T, n *Net, i int, want api.Letter) api.Letter {
	t.Helper()
	got, ok := n.Take(i)
	if !ok || !same(got, want) {
		t.Errorf("P16.1: Take(%d): %s, %t, not %s", i, brief(got), ok, brief(want))
	}
	return got
}

// takeNone asks for a place that is not there.
func takeNone(t *testing.T, n *Net, i int) {
	t.Helper()
	if got, ok := n.Take(i); ok || !same(got, api.Letter{}) {
		t.Errorf("P16.1: Take(%d), where no letter is: %s, %t", i, brief(got), ok)
	}
}

// double doubles place i, and holds whether that is done against whether it is to be.
func double(t *testing.T, n *Net, i int, want bool) {
	t.Helper()
	if got := n.Double(i); got != want {
		t.Errorf("P16.1: Double(%d) of %d letters: %t", i, n.Len(), got)
	}
}

// roomy answers a list with spare room behind it, filled with something to be
// watched.
func roomy[T any](all []T, spare ...T) []T {
	return append(slices.Clone(all), spare...)[:len(all)]
}

// roomyLetters answers ls, with spare room behind them and behind each of
// their lists.
func roomyLetters(ls ...api.Letter) []api.Letter {
	var all []api.Letter
	for _, l := range ls {
		l.Msg.Set = roomy(l.Msg.Set, 7, -7)
		l.Msg.Pairs = roomy(l.Msg.Pairs, api.Pair{Key: "watched"}, api.Pair{Value: "watched"})
		all = append(all, l)
	}
	return roomy(all, letter(990), letter(991))
}

// shown answers ls in memory of its own, with all spare room shown.
func shown(ls []api.Letter) []api.Letter {
	all := slices.Clone(ls[:cap(ls)])
	for i, l := range all {
		all[i].Msg.Set = slices.Clone(l.Msg.Set[:cap(l.Msg.Set)])
		all[i].Msg.Pairs = slices.Clone(l.Msg.Pairs[:cap(l.Msg.Pairs)])
	}
	return all
}

// fill writes x over all that a list has room for.
func fill[T any](all []T, x T) {
	all = all[:cap(all)]
	for i := range all {
		all[i] = x
	}
}

// spoil appends to the lists of l, and writes over all that they have room for.
func spoil(l api.Letter) {
	fill(append(l.Msg.Set, -99), -99)
	fill(append(l.Msg.Pairs, api.Pair{Key: "spoiled"}), api.Pair{Value: "spoiled"})
	fill(l.Msg.Set, -99)
	fill(l.Msg.Pairs, api.Pair{Value: "spoiled"})
}

// spoilAll spoils the lists of ls, then ls itself.
func spoilAll(ls []api.Letter) {
	for _, l := range ls[:cap(ls)] {
		spoil(l)
	}
	fill(append(ls, letter(999)), letter(998))
	fill(ls, letter(997))
}
