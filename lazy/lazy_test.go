package lazy

import (
	"strconv"
	"strings"
	"sync"
	"sync/atomic"
	"testing"
)

// together calls do from several goroutines at one time, and joins them.
func together(goroutines int, do func(g int)) {
	start := make(chan struct{})
	var all sync.WaitGroup
	for g := range goroutines {
		all.Add(1)
		go func() {
			defer all.Done()
			<-start
			do(g)
		}()
	}
	close(start)
	all.Wait()
}

// counting answers a function that tells its number of calls so far, and that number.
func counting() (func() string, *int) {
	calls := 0
	return func() string {
		calls++
		return strconv.Itoa(calls)
	}, &calls
}

func TestTheChaptersExample(t *testing.T) {
	calls := 0
	c := New(func() string {
		calls++
		return "a"
	})
	if c == nil {
		t.Fatal("P3.1: New: nil")
	}
	before, first, second, after := c.Made(), c.Get(), c.Get(), c.Made()
	if before || first != "a" || second != "a" || !after || calls != 1 {
		t.Errorf("P3.1: %v, %q, %q, %v, %d calls", before, first, second, after, calls)
	}
}

func TestNothingIsMadeAheadOfGet(t *testing.T) {
	f, calls := counting()
	c := New(f)
	for range 3 {
		if c.Made() {
			t.Error("P3.1: a new cell is made")
		}
	}
	if *calls != 0 {
		t.Errorf("P3.1: %d calls of f ahead of the first Get", *calls)
	}
	if got := c.Get(); got != "1" || !c.Made() || *calls != 1 {
		t.Errorf("P3.1: the first Get: %q, Made %v, %d calls", got, c.Made(), *calls)
	}
}

func TestTheFirstAnswerIsKept(t *testing.T) {
	f, calls := counting()
	c := New(f)
	for range 100 {
		if got := c.Get(); got != "1" {
			t.Fatalf("P3.1: Get: %q, not what f answered first", got)
		}
		if !c.Made() {
			t.Fatal("P3.1: not made behind Get")
		}
	}
	if *calls != 1 {
		t.Errorf("P3.1: %d calls of f", *calls)
	}
}

func TestFIsAskedWhenGetIs(t *testing.T) {
	now := "early"
	c := New(func() string { return now })
	now = "at the first Get"
	if got := c.Get(); got != "at the first Get" {
		t.Errorf("P3.1: the first Get: %q", got)
	}
	now = "late"
	if got := c.Get(); got != "at the first Get" {
		t.Errorf("P3.1: a later Get: %q", got)
	}
}

func TestTextsOfAnyBytes(t *testing.T) {
	texts := []string{"", "\x00", "a\x00b", "\xff\xfe", "line\nline", " ", "\u00e9", strings.Repeat("ab", 100000)}
	for _, want := range texts {
		calls := 0
		c := New(func() string {
			calls++
			return want
		})
		for range 3 {
			if got := c.Get(); got != want {
				t.Errorf("P3.1: Get: %d bytes, not the %d of f", len(got), len(want))
			}
		}
		if calls != 1 || !c.Made() {
			t.Errorf("P3.1: of %d bytes: %d calls of f, Made %v", len(want), calls, c.Made())
		}
	}
}

func TestCellOfNilIsEmpty(t *testing.T) {
	c := New(nil)
	if c == nil {
		t.Fatal("P3.1: New(nil): nil")
	}
	if c.Made() {
		t.Error("P3.1: made ahead of Get")
	}
	for range 3 {
		if got := c.Get(); got != "" || !c.Made() {
			t.Errorf("P3.1: %q, Made %v", got, c.Made())
		}
	}
}

func TestCellsAreTheirOwn(t *testing.T) {
	f, calls := counting()
	a, b := New(f), New(f)
	if a == b {
		t.Fatal("P3.1: New answers one cell twice")
	}
	if got := b.Get(); got != "1" || a.Made() || !b.Made() || *calls != 1 {
		t.Errorf("P3.1: the one's Get: %q, Made %v and %v, %d calls", got, a.Made(), b.Made(), *calls)
	}
	if got := a.Get(); got != "2" || !a.Made() || *calls != 2 {
		t.Errorf("P3.1: the other one's Get: %q, Made %v, %d calls", got, a.Made(), *calls)
	}
	if a.Get() != "2" || b.Get() != "1" || *calls != 2 {
		t.Errorf("P3.1: later: %q, %q, %d calls", a.Get(), b.Get(), *calls)
	}
}

func TestFMayAskAnotherCell(t *testing.T) {
	f, calls := counting()
	inner := New(f)
	outer := New(func() string { return "of " + inner.Get() })
	if outer.Made() || inner.Made() {
		t.Error("P3.1: made ahead of Get")
	}
	if got := outer.Get(); got != "of 1" || !inner.Made() {
		t.Errorf("P3.1: %q, the inner one Made %v", got, inner.Made())
	}
	if outer.Get() != "of 1" || inner.Get() != "1" || *calls != 1 {
		t.Errorf("P3.1: %q, %q, %d calls", outer.Get(), inner.Get(), *calls)
	}
}

func TestAPanicOfFStaysInside(t *testing.T) {
	fs := []func(calls int) string{
		func(int) string { panic("a text") },
		func(int) string { panic(nil) },
		func(calls int) string { return strconv.Itoa(1 / (calls - 1)) },
		func(calls int) string { return []string{}[calls] },
	}
	for i, f := range fs {
		calls := 0
		c := New(func() string {
			calls++
			return f(calls)
		})
		for range 3 {
			if got := c.Get(); got != "" || !c.Made() {
				t.Errorf("R1: f %d: %q, Made %v", i, got, c.Made())
			}
		}
		if calls != 1 {
			t.Errorf("P3.1: f %d: %d calls", i, calls)
		}
	}
}

func TestGetsAtOneTime(t *testing.T) {
	const goroutines, rounds, gets = 16, 200, 5
	for range rounds {
		var calls, bad atomic.Int64
		c := New(func() string {
			return strconv.FormatInt(calls.Add(1), 10)
		})
		together(goroutines, func(int) {
			for range gets {
				if c.Get() != "1" || !c.Made() {
					bad.Add(1)
				}
			}
		})
		if calls.Load() != 1 || bad.Load() != 0 {
			t.Fatalf("P3.1: %d calls of f, %d other answers", calls.Load(), bad.Load())
		}
	}
}

// TestGetsWaitForTheFirst holds f back until all the others have come, so that
// a Get that answers ahead of f, or calls f again, is found.
func TestGetsWaitForTheFirst(t *testing.T) {
	const goroutines = 12
	var calls, came, bad atomic.Int64
	inside, others := make(chan struct{}), make(chan struct{})
	c := New(func() string {
		if calls.Add(1) == 1 {
			close(inside)
			<-others
		}
		return "kept"
	})
	together(goroutines, func(g int) {
		if g != 0 {
			<-inside
			if came.Add(1) == goroutines-1 {
				close(others)
			}
		}
		if c.Get() != "kept" {
			bad.Add(1)
		}
	})
	if calls.Load() != 1 || bad.Load() != 0 {
		t.Errorf("P3.1: %d calls of f, %d other answers", calls.Load(), bad.Load())
	}
}

func TestMadeWhileFIsAtWork(t *testing.T) {
	inside, end := make(chan struct{}), make(chan struct{})
	c := New(func() string {
		close(inside)
		<-end
		return "late"
	})
	got := make(chan string)
	go func() { got <- c.Get() }()
	<-inside
	if !c.Made() {
		t.Error("P3.1: Get was called, and Made says no")
	}
	close(end)
	if text := <-got; text != "late" || !c.Made() {
		t.Errorf("P3.1: %q, Made %v", text, c.Made())
	}
}

func TestMadesBesideGets(t *testing.T) {
	const goroutines, asks = 8, 500
	var fell atomic.Int64
	c := New(func() string { return "x" })
	together(goroutines, func(g int) {
		was := false
		for k := range asks {
			if g == 0 && k == asks/2 {
				c.Get()
			}
			is := c.Made()
			if was && !is {
				fell.Add(1)
			}
			was = is
		}
	})
	if fell.Load() != 0 || !c.Made() {
		t.Errorf("P3.1: Made turned back %d times, at the end %v", fell.Load(), c.Made())
	}
}

func TestCellsOfOneFAtOneTime(t *testing.T) {
	const goroutines = 8
	var calls, bad atomic.Int64
	f := func() string { return strconv.FormatInt(calls.Add(1), 10) }
	together(goroutines, func(int) {
		c := New(f)
		first := c.Get()
		if first == "" || c.Get() != first {
			bad.Add(1)
		}
	})
	if calls.Load() != goroutines || bad.Load() != 0 {
		t.Errorf("P3.1: %d calls of f for %d cells, %d changed", calls.Load(), goroutines, bad.Load())
	}
}

func TestNilCell(t *testing.T) {
	var none *Cell
	for range 2 {
		if none.Made() {
			t.Error("R3: Made of nil")
		}
		if got := none.Get(); got != "" {
			t.Errorf("R3: Get of nil: %q", got)
		}
	}
}
