package net

import (
	"reflect"
	"slices"
	"sync"
	"testing"

	"staithe/api"
)

func TestWhatIsHandedInStays(t *testing.T) {
	for _, there := range []int{0, 1, most - 2, most} {
		ls := roomyLetters(letter(1), bare(2), letter(3))
		before := shown(ls)
		n := with(from(50, there)...)
		n.Send(ls...)
		n.Send(ls[:1]...)
		n.Send(ls[1:]...)
		n.Send(ls[0], ls[2])
		for i := range n.Len() {
			n.Double(i)
		}
		spoilAll(n.List())
		for range n.Len() {
			l, _ := n.Take(n.Len() - 1)
			spoil(l)
		}
		n.Send(from(70, 9)...)
		if !reflect.DeepEqual(shown(ls), before) {
			t.Errorf("R4: letters that were handed in, with %d there, were changed: %s", there, brief(shown(ls)))
		}
	}
}

func TestWhatIsHandedInIsNotKept(t *testing.T) {
	ls := roomyLetters(letter(1), bare(2), letter(3))
	n := New()
	send(t, n, 0, ls...)
	send(t, n, 0, ls[2], ls[0])
	double(t, n, 0, true)
	spoilAll(ls)
	ask(t, "what was handed in, written over", n, letter(1), bare(2), letter(3), letter(3), letter(1), letter(1))
	for _, want := range []api.Letter{letter(1), bare(2), letter(3), letter(3), letter(1), letter(1)} {
		take(t, n, 0, want)
	}
}

// TestListsThatLettersShare sends letters whose lists are the same memory, or
// lie behind one another in it: in the net each has its own.
func TestListsThatLettersShare(t *testing.T) {
	set := []int{1, 2, 3, 4}
	ps := []api.Pair{{Key: "a"}, {Key: "b"}, {Key: "c"}}
	head := api.Letter{Msg: api.Message{Set: set[:2], Pairs: ps[:1]}}
	tail := api.Letter{Msg: api.Message{Set: set[2:], Pairs: ps[1:]}}
	none := api.Letter{Msg: api.Message{Set: set[:0], Pairs: ps[:0]}}
	ls := []api.Letter{head, head, none, tail, none, head}
	want := []api.Letter{
		{Msg: api.Message{Set: []int{1, 2}, Pairs: []api.Pair{{Key: "a"}}}},
		{Msg: api.Message{Set: []int{1, 2}, Pairs: []api.Pair{{Key: "a"}}}},
		{},
		{Msg: api.Message{Set: []int{3, 4}, Pairs: []api.Pair{{Key: "b"}, {Key: "c"}}}},
		{},
		{Msg: api.Message{Set: []int{1, 2}, Pairs: []api.Pair{{Key: "a"}}}},
	}
	for i := range ls {
		n := with(ls...)
		spoil(take(t, n, i, want[i]))
		ask(t, "a letter taken and written over", n, slices.Delete(slices.Clone(want), i, i+1)...)
	}
	if !slices.Equal(set, []int{1, 2, 3, 4}) || !slices.Equal(ps, []api.Pair{{Key: "a"}, {Key: "b"}, {Key: "c"}}) {
		t.Errorf("R4: what was handed in was changed: %v, %v", set, ps)
	}
}

func TestWhatTakeAnswersIsItsOwn(t *testing.T) {
	const there = 5
	for i := range there {
		n := with(from(0, there)...)
		double(t, n, i, true)
		all := n.List()
		last := take(t, n, there-1, letter(there-1))
		send(t, n, 0, last)
		want := append(from(0, there-1), letter(i), letter(there-1))
		spoil(take(t, n, i, want[i]))
		ask(t, "an answer of Take, written over", n, slices.Delete(slices.Clone(want), i, i+1)...)
		stands(t, "an answer of Take, written over,", all, append(from(0, there), letter(i))...)
		stands(t, "an answer of Take, written over,", []api.Letter{last}, letter(there-1))
	}
}

func TestTheDoubleHasListsOfItsOwn(t *testing.T) {
	for _, i := range []int{0, 1} {
		n := with(letter(7))
		double(t, n, 0, true)
		spoil(take(t, n, i, letter(7)))
		ask(t, "one of the two, written over", n, letter(7))
		double(t, n, 0, true)
		spoil(take(t, n, 1-i, letter(7)))
		take(t, n, 0, letter(7))
	}
}

// TestListsOfOneAnswer writes over, and appends to, the lists of each letter of
// an answer of List, one list alone: all others stand.
func TestListsOfOneAnswer(t *testing.T) {
	n := with(from(0, 6)...)
	double(t, n, 2, true)
	double(t, n, 2, true)
	want := append(from(0, 6), letter(2), letter(2))
	for i := range want {
		all := n.List()
		fill(append(all[i].Msg.Set, -99), -99)
		fill(all[i].Msg.Set, -99)
		if !slices.Equal(all[i].Msg.Pairs, want[i].Msg.Pairs) {
			t.Errorf("R4: with the Set of letter %d its Pairs were changed", i)
		}
		all[i].Msg.Set = slices.Clone(want[i].Msg.Set)
		fill(append(all[i].Msg.Pairs, api.Pair{}), api.Pair{Key: "spoiled"})
		fill(all[i].Msg.Pairs, api.Pair{Key: "spoiled"})
		all[i].Msg.Pairs = slices.Clone(want[i].Msg.Pairs)
		stands(t, "the lists of one of its letters, written over,", all, want...)
		ask(t, "lists of an answer of List, written over", n, want...)
	}
}

func TestWhatListAnswersIsItsOwn(t *testing.T) {
	n := with(from(0, 3)...)
	first, second := n.List(), n.List()
	more := append(n.List(), letter(50))
	spoilAll(first)
	send(t, n, 0, letter(3))
	stands(t, "another one, written over,", second, from(0, 3)...)
	stands(t, "another one, written over,", more, append(from(0, 3), letter(50))...)
	ask(t, "an answer of List, written over", n, from(0, 4)...)
	none := append(New().List(), letter(60))
	stands(t, "List of another one that is empty", none, letter(60))
	stands(t, "an answer of none, appended to,", New().List())
}

// TestListOfOneThatWasEmptied appends to what List answers of a net that all
// letters were taken of: no later letter comes into that, nor that into the net.
func TestListOfOneThatWasEmptied(t *testing.T) {
	n := with(from(0, 2)...)
	take(t, n, 1, letter(1))
	take(t, n, 0, letter(0))
	none := append(n.List(), letter(8))
	send(t, n, 0, letter(9))
	stands(t, "Send", none, letter(8))
	ask(t, "an answer of none, appended to", n, letter(9))
}

func TestAnswersStandWhateverComes(t *testing.T) {
	n := with(from(0, 4)...)
	all := n.List()
	l := take(t, n, 1, letter(1))
	for _, act := range []struct {
		what string
		do   func()
	}{
		{"Take", func() { n.Take(0) }},
		{"Send", func() { n.Send(l); n.Send(from(20, 3)...) }},
		{"Double", func() { n.Double(0); n.Double(2) }},
		{"Send of a taken one, taken again", func() { spoil(take(t, n, 2, letter(1))) }},
		{"Send of more than there is room for", func() { n.Send(from(40, 2*most)...) }},
		{"Take of all", func() {
			for range n.Len() {
				got, _ := n.Take(0)
				spoil(got)
			}
		}},
		{"Send to one that was emptied", func() { n.Send(from(70, 5)...) }},
	} {
		act.do()
		stands(t, act.what, all, from(0, 4)...)
		stands(t, act.what, []api.Letter{l}, letter(1))
	}
}

// TestNetsAtOneTime has several goroutines, each with a net of its own, send
// the same letters.
func TestNetsAtOneTime(t *testing.T) {
	ls := roomyLetters(from(0, 9)...)
	before := shown(ls)
	var all sync.WaitGroup
	for g := range 8 {
		all.Add(1)
		go func() {
			defer all.Done()
			n := New()
			for range 200 {
				send(t, n, 0, ls...)
				double(t, n, g, true)
				ask(t, "acts at one time", n, append(from(0, 9), letter(g))...)
				for range n.Len() {
					l, _ := n.Take(0)
					spoil(l)
				}
				if t.Failed() {
					return
				}
			}
		}()
	}
	all.Wait()
	if !reflect.DeepEqual(shown(ls), before) {
		t.Errorf("R4: what was handed in was changed: %s", brief(shown(ls)))
	}
}
