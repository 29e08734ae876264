package net

import (
	"slices"
	"testing"
	"time"

	"staithe/api"
)

func TestTheChaptersExample(t *testing.T) {
	a, b := letter(1), letter(2)
	n := New()
	send(t, n, 0, a, b)
	take(t, n, 0, a)
	if got := n.Len(); got != 1 {
		t.Errorf("P16.1: Len: %d, not 1", got)
	}
	ask(t, "the example", n, b)
}

func TestNew(t *testing.T) {
	n := New()
	if n == nil {
		t.Fatal("P16.1: New: nil")
	}
	ask(t, "New", n)
	takeNone(t, n, 0)
	double(t, n, 0, false)
	ask(t, "what a new one was asked", n)
}

func TestTwoNetsShareNothing(t *testing.T) {
	one, two := New(), New()
	both := from(0, 3)
	send(t, one, 0, both...)
	ask(t, "Send to another one", two)
	send(t, two, 0, both[1:]...)
	double(t, one, 2, true)
	take(t, one, 0, letter(0))
	ask(t, "acts of this one", one, letter(1), letter(2), letter(2))
	ask(t, "acts of another one", two, letter(1), letter(2))
	spoil(take(t, one, 0, letter(1)))
	spoilAll(one.List())
	ask(t, "another one's answers written over", two, letter(1), letter(2))
	send(t, one, 2, from(10, most)...)
	send(t, two, 0, letter(5))
	ask(t, "Send while another one is full", two, letter(1), letter(2), letter(5))
	send(t, New(), 0, from(0, most)...)
}

func TestSendNone(t *testing.T) {
	for _, there := range []int{0, 1, 5, most - 1, most} {
		n := with(from(0, there)...)
		send(t, n, 0)
		send(t, n, 0, []api.Letter{}...)
		send(t, n, 0, from(50, 3)[:0]...)
		ask(t, "Send of none", n, from(0, there)...)
	}
}

func TestSendBehindAllOthers(t *testing.T) {
	n := New()
	for i := range 20 {
		send(t, n, 0, letter(i))
		ask(t, "Send of one", n, from(0, i+1)...)
	}
	for _, several := range []int{2, 3, 1, 10, 40} {
		there := n.Len()
		send(t, n, 0, from(there, several)...)
		ask(t, "Send of several", n, from(0, there+several)...)
	}
}

func TestSendIsInTheOrderHandedIn(t *testing.T) {
	ls := []api.Letter{letter(3), letter(1), letter(3), bare(2), {}, letter(0), letter(1)}
	n := New()
	send(t, n, 0, ls...)
	send(t, n, 0, ls[4:]...)
	ask(t, "Send", n, append(slices.Clone(ls), ls[4:]...)...)
}

// TestAnyLetterIsSent has letters of nodes, kinds and lists that no machine
// would send: a net looks at none of that.
func TestAnyLetterIsSent(t *testing.T) {
	var ls []api.Letter
	for _, x := range append(edges(), 0, 1, 9) {
		ls = append(ls, api.Letter{From: x, To: x, Msg: api.Message{Kind: x, Split: x, Attempt: x, Part: x, Seq: x, Next: x, Epoch: x, Reason: x, Set: []int{x}}})
	}
	ls = append(ls, api.Letter{Msg: api.Message{Set: make([]int, 1000), Pairs: make([]api.Pair, 1000)}})
	ls = append(ls, api.Letter{Msg: api.Message{Pairs: []api.Pair{{Key: string(make([]byte, 1000)), Value: "\xff\x00"}}}})
	ls = append(ls, api.Letter{Msg: api.Message{Set: []int{}, Pairs: []api.Pair{}}})
	n := New()
	send(t, n, 0, ls...)
	ask(t, "Send of any letters", n, ls...)
	double(t, n, len(ls)-2, true)
	for _, l := range append(slices.Clone(ls), ls[len(ls)-2]) {
		take(t, n, 0, l)
	}
	ask(t, "Take of all", n)
}

// TestSendAtTheBound has so many there, and so many sent, that all, some or
// none of them have room.
func TestSendAtTheBound(t *testing.T) {
	for _, there := range []int{0, 1, 2, 60, 64, most - 2, most - 1, most} {
		room := most - there
		for _, sent := range []int{room - 1, room, room + 1, room + 2, room + 100, room + 1000} {
			if sent < 0 {
				continue
			}
			n := with(from(0, there)...)
			send(t, n, max(0, sent-room), from(there, sent)...)
			ask(t, "Send at the bound", n, from(0, min(there+sent, most))...)
			if t.Failed() {
				t.Fatalf("P16.1: %d were there, and %d sent", there, sent)
			}
		}
	}
}

func TestSendPastTheBoundInSeveralCalls(t *testing.T) {
	n := New()
	for i := range most {
		send(t, n, 0, letter(i))
	}
	for _, sent := range []int{1, 1, 2, 0, 3, 1} {
		send(t, n, sent, from(500, sent)...)
		ask(t, "Send to a full one", n, from(0, most)...)
	}
	n = New()
	for _, x := range []struct{ sent, lost int }{{50, 0}, {50, 0}, {50, 22}, {50, 50}, {1, 1}} {
		send(t, n, x.lost, from(n.Len(), x.sent)...)
	}
	ask(t, "Send of more than there is room for", n, from(0, most)...)
}

// TestLostOfThisCallAlone has losses, then room again: of a later call only
// its own are told.
func TestLostOfThisCallAlone(t *testing.T) {
	n := with(from(0, most)...)
	send(t, n, 4, from(200, 4)...)
	take(t, n, 0, letter(0))
	take(t, n, 0, letter(1))
	send(t, n, 0, letter(300))
	send(t, n, 1, from(301, 2)...)
	send(t, n, 0)
	send(t, n, 1, letter(400))
	ask(t, "losses", n, append(from(2, most-2), letter(300), letter(301))...)
}

// TestTheLostAreGone makes room behind a loss: none of the lost ones comes
// into it.
func TestTheLostAreGone(t *testing.T) {
	n := New()
	send(t, n, 9, from(0, most+9)...)
	for i := range most {
		take(t, n, 0, letter(i))
	}
	ask(t, "Take of all that were not lost", n)
	send(t, n, 0, letter(1))
	ask(t, "Send where some were lost once", n, letter(1))
}

func TestTakeOfEachPlace(t *testing.T) {
	for _, there := range []int{1, 2, 3, 7, most - 1, most} {
		for i := range there {
			n := with(from(0, there)...)
			take(t, n, i, letter(i))
			ask(t, "Take", n, slices.Delete(from(0, there), i, i+1)...)
			if t.Failed() {
				t.Fatalf("P16.1: Take(%d) of %d letters", i, there)
			}
		}
	}
}

func TestTakeOfNoPlace(t *testing.T) {
	for _, there := range []int{0, 1, 2, 7, most - 1, most} {
		n := with(from(0, there)...)
		for _, i := range append(edges(), -there-1, -there, there, there+1, 2*there) {
			if i < 0 || i >= there {
				takeNone(t, n, i)
			}
		}
		ask(t, "Take of no place", n, from(0, there)...)
	}
}

func TestTakeOneAfterTheOther(t *testing.T) {
	n := with(from(0, 5)...)
	take(t, n, 2, letter(2))
	take(t, n, 2, letter(3))
	takeNone(t, n, 3)
	take(t, n, 2, letter(4))
	take(t, n, 0, letter(0))
	takeNone(t, n, 1)
	send(t, n, 0, letter(9))
	take(t, n, 1, letter(9))
	take(t, n, 0, letter(1))
	takeNone(t, n, 0)
	ask(t, "Take of all", n)
	takeNone(t, n, -1)
	send(t, n, 0, from(20, 2)...)
	ask(t, "Send to one that all were taken of", n, from(20, 2)...)
}

func TestTakeMakesRoom(t *testing.T) {
	n := with(from(0, most)...)
	for i := range most {
		send(t, n, 1, letter(999))
		take(t, n, 0, letter(i))
		send(t, n, 0, letter(most+i))
	}
	ask(t, "Take and Send of as many as may be", n, from(most, most)...)
}

func TestDoubleOfEachPlace(t *testing.T) {
	for _, there := range []int{1, 2, 3, 7, most - 1} {
		for i := range there {
			n := with(from(0, there)...)
			double(t, n, i, true)
			ask(t, "Double", n, append(from(0, there), letter(i))...)
			if t.Failed() {
				t.Fatalf("P16.1: Double(%d) of %d letters", i, there)
			}
		}
	}
}

func TestDoubleOfNoPlace(t *testing.T) {
	for _, there := range []int{0, 1, 2, 7, most - 1, most} {
		n := with(from(0, there)...)
		for _, i := range append(edges(), -there-1, -there, there, there+1, 2*there) {
			if i < 0 || i >= there {
				double(t, n, i, false)
			}
		}
		ask(t, "Double of no place", n, from(0, there)...)
	}
}

func TestDoubleWithoutRoom(t *testing.T) {
	n := with(from(0, most)...)
	for i := range most {
		double(t, n, i, false)
	}
	ask(t, "Double of a full one", n, from(0, most)...)
	take(t, n, 3, letter(3))
	double(t, n, most-2, true)
	double(t, n, 0, false)
	want := append(slices.Delete(from(0, most), 3, 4), letter(most-1))
	ask(t, "Double with room for just one", n, want...)
	send(t, n, 1, letter(500))
	ask(t, "Send where a double took the room", n, want...)
}

func TestDoubleAgainAndAgain(t *testing.T) {
	n := with(letter(1), letter(2))
	want := []api.Letter{letter(1), letter(2)}
	for i := len(want); i < most; i++ {
		double(t, n, i-2, true)
		want = append(want, want[i-2])
	}
	double(t, n, 0, false)
	ask(t, "Double until it is full", n, want...)
}

func TestEachOfTheTwoIsTakenAlone(t *testing.T) {
	for _, first := range []bool{true, false} {
		n := with(from(0, 3)...)
		double(t, n, 1, true)
		if first {
			take(t, n, 1, letter(1))
			ask(t, "Take of the first one", n, letter(0), letter(2), letter(1))
			take(t, n, 2, letter(1))
		} else {
			take(t, n, 3, letter(1))
			ask(t, "Take of the double", n, from(0, 3)...)
			take(t, n, 1, letter(1))
		}
		ask(t, "Take of both", n, letter(0), letter(2))
	}
}

func TestAskingChangesNothing(t *testing.T) {
	n := with(from(0, 4)...)
	for range 3 {
		ask(t, "asking", n, from(0, 4)...)
		takeNone(t, n, 4)
		double(t, n, -1, false)
	}
}

func TestNilNet(t *testing.T) {
	var none *Net
	for _, ls := range [][]api.Letter{nil, {}, {letter(1)}, from(0, 3), from(0, most+5)} {
		if got := none.Send(ls...); got != 0 {
			t.Errorf("R3: Send of %d letters: %d", len(ls), got)
		}
	}
	for _, i := range append(edges(), 0, 1) {
		if got, ok := none.Take(i); ok || !same(got, api.Letter{}) {
			t.Errorf("R3: Take(%d): %s, %t", i, brief(got), ok)
		}
		if none.Double(i) {
			t.Errorf("R3: Double(%d): true", i)
		}
	}
	if got := none.Len(); got != 0 {
		t.Errorf("R3: Len: %d", got)
	}
	if got := none.List(); len(got) != 0 {
		t.Errorf("R3: List: %s", brief(got))
	}
}

// TestSizes has many letters, great ones and many calls: all ends in a time
// that the sizes explain.
func TestSizes(t *testing.T) {
	begun := time.Now()
	n := New()
	const sent = 1 << 20
	send(t, n, sent-most, make([]api.Letter, sent)...)
	if n.Len() != most {
		t.Fatalf("P16.1: %d letters are there of %d that were sent", n.Len(), sent)
	}
	great := letter(0)
	great.Msg.Set, great.Msg.Pairs = make([]int, 1<<22), make([]api.Pair, 1<<20)
	for range 1000 {
		send(t, n, 2, great, great)
		double(t, n, 0, false)
		takeNone(t, n, most)
		if t.Failed() {
			t.FailNow()
		}
	}
	take(t, n, 0, api.Letter{})
	send(t, n, 1, great, great)
	take(t, n, most-1, great)
	for range 200_000 {
		send(t, n, 1, letter(1), letter(2))
		take(t, n, most-1, letter(1))
		double(t, n, most/2, true)
		take(t, n, 0, api.Letter{})
		if t.Failed() {
			t.FailNow()
		}
	}
	if took := time.Since(begun); took > 10*time.Second {
		t.Errorf("R1: the greatest sizes took %v", took)
	}
}
