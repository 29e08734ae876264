package tally

import (
	"math"
	"slices"
	"sync"
	"testing"

	"staithe/api"
)

func noCounters() []int {
	return []int{-1, -2, api.Counters, api.Counters + 1, 1 << 40, math.MinInt, math.MaxInt}
}

func tooMany() []int {
	return []int{api.Most + 1, 2 * api.Most, math.MaxInt - 1, math.MaxInt}
}

func belowZero() []int {
	return []int{-1, -2, -api.Most, math.MinInt, math.MinInt + 1}
}

// together calls do from several goroutines at one time, and joins them.
func together(goroutines int, do func(g int)) {
	start := make(chan struct{})
	var all sync.WaitGroup
	for g := range goroutines {
		all.Add(1)
		go func() {
			defer all.Done()
			<-start
			do(g)
		}()
	}
	close(start)
	all.Wait()
}

func TestNewCountersAreZero(t *testing.T) {
	c := New()
	if c == nil {
		t.Fatal("P2.1: New: nil")
	}
	if got := c.All(); !slices.Equal(got, make([]int, api.Counters)) {
		t.Errorf("P2.1: All of a new one: %v", got)
	}
	for i := range api.Counters {
		if got := c.Get(i); got != 0 {
			t.Errorf("P2.1: Get(%d) of a new one: %d", i, got)
		}
	}
}

func TestTheChaptersExample(t *testing.T) {
	c := New()
	got := []int{c.Add(2, 3), c.Raise(2, 9), c.Raise(2, 4), c.Get(2)}
	if !slices.Equal(got, []int{3, 9, 9, 9}) {
		t.Errorf("P2.1: %v", got)
	}
}

func TestEachCounterAloneChanges(t *testing.T) {
	c := New()
	want := make([]int, api.Counters)
	for round := range 3 {
		for i := range api.Counters {
			want[i] += 10*round + i
			if got := c.Add(i, 10*round+i); got != want[i] {
				t.Errorf("P2.1: Add(%d, %d): %d, not %d", i, 10*round+i, got, want[i])
			}
			if got := c.All(); !slices.Equal(got, want) {
				t.Fatalf("P2.1: behind an Add to %d: %v, not %v", i, got, want)
			}
			want[i] += 5
			if got := c.Raise(i, want[i]); got != want[i] {
				t.Errorf("P2.1: Raise(%d, %d): %d", i, want[i], got)
			}
			if got := c.All(); !slices.Equal(got, want) {
				t.Fatalf("P2.1: behind a Raise of %d: %v, not %v", i, got, want)
			}
			if got := c.Get(i); got != want[i] {
				t.Errorf("P2.1: Get(%d): %d, not %d", i, got, want[i])
			}
		}
	}
}

func TestAddOfEveryNumber(t *testing.T) {
	type step struct{ first, n, want int }
	steps := []step{
		{0, 0, 0}, {7, 0, 7}, {0, 1, 1}, {7, 1, 8},
		{0, api.Most - 1, api.Most - 1}, {1, api.Most - 1, api.Most}, {2, api.Most - 1, api.Most},
		{0, api.Most, api.Most}, {1, api.Most, api.Most}, {api.Most, api.Most, api.Most},
		{api.Most - 1, 1, api.Most}, {api.Most - 1, 2, api.Most}, {api.Most - 1, 0, api.Most - 1},
		{api.Most, 1, api.Most}, {api.Most, 0, api.Most}, {api.Most / 2, api.Most / 2, api.Most},
	}
	for _, first := range []int{0, 7, api.Most - 1, api.Most} {
		for _, n := range append(belowZero(), tooMany()...) {
			steps = append(steps, step{first, n, first})
		}
	}
	for _, x := range steps {
		c := New()
		c.Add(4, x.first)
		if got := c.Add(4, x.n); got != x.want || c.Get(4) != x.want {
			t.Errorf("P2.1: %d, Add(4, %d): %d, then %d, not %d", x.first, x.n, got, c.Get(4), x.want)
		}
	}
}

func TestRaiseToEveryNumber(t *testing.T) {
	type step struct{ first, n, want int }
	steps := []step{
		{0, 0, 0}, {0, 1, 1}, {7, 0, 7}, {7, 6, 7}, {7, 7, 7}, {7, 8, 8},
		{0, api.Most - 1, api.Most - 1}, {0, api.Most, api.Most}, {7, api.Most, api.Most},
		{api.Most - 1, api.Most, api.Most}, {api.Most, api.Most - 1, api.Most},
		{api.Most, api.Most, api.Most}, {api.Most, 0, api.Most},
	}
	for _, first := range []int{0, 7, api.Most - 1, api.Most} {
		for _, n := range append(belowZero(), tooMany()...) {
			steps = append(steps, step{first, n, first})
		}
	}
	for _, x := range steps {
		c := New()
		c.Add(4, x.first)
		if got := c.Raise(4, x.n); got != x.want || c.Get(4) != x.want {
			t.Errorf("P2.1: %d, Raise(4, %d): %d, then %d, not %d", x.first, x.n, got, c.Get(4), x.want)
		}
	}
}

func TestManyAddsStayAtMost(t *testing.T) {
	c := New()
	for range 1000 {
		if got := c.Add(0, api.Most); got != api.Most {
			t.Fatalf("P2.1: %d", got)
		}
	}
}

func TestNumbersThatAreNoCounter(t *testing.T) {
	c := New()
	for i := range api.Counters {
		c.Add(i, 100+i)
	}
	want := c.All()
	numbers := append([]int{0, 1, 1000, api.Most}, append(belowZero(), tooMany()...)...)
	for _, i := range noCounters() {
		for _, n := range numbers {
			if got := c.Add(i, n); got != 0 {
				t.Errorf("P2.1: Add(%d, %d): %d", i, n, got)
			}
			if got := c.Raise(i, n); got != 0 {
				t.Errorf("P2.1: Raise(%d, %d): %d", i, n, got)
			}
			if got := c.Get(i); got != 0 {
				t.Errorf("P2.1: Get(%d): %d", i, got)
			}
		}
	}
	if got := c.All(); !slices.Equal(got, want) {
		t.Errorf("P2.1: counters changed: %v, not %v", got, want)
	}
}

func TestNoCounterFalls(t *testing.T) {
	c := New()
	numbers := append([]int{3, 0, 1, 9, 4, 200, 5}, append(belowZero(), tooMany()...)...)
	before := c.All()
	for round := range 40 {
		for k, n := range numbers {
			i := (round + k) % api.Counters
			if (round+k)%3 == 0 {
				c.Raise(i, n)
			} else {
				c.Add(i, n)
			}
			after := c.All()
			for j := range after {
				if after[j] < before[j] || j != i && after[j] != before[j] {
					t.Fatalf("P2.1: behind %d for %d: %v, not %v", n, i, after, before)
				}
			}
			before = after
		}
	}
}

func TestTalliesAreTheirOwn(t *testing.T) {
	a, b := New(), New()
	a.Add(1, 5)
	b.Raise(2, 6)
	if a.Get(1) != 5 || a.Get(2) != 0 || b.Get(1) != 0 || b.Get(2) != 6 {
		t.Errorf("R5: %v, %v", a.All(), b.All())
	}
}

func TestNoAddIsLost(t *testing.T) {
	const goroutines, adds = 8, 20000
	c := New()
	seen := make([][]int, goroutines)
	together(goroutines, func(g int) {
		for range adds {
			seen[g] = append(seen[g], c.Add(3, 1))
		}
	})
	if got := c.Get(3); got != goroutines*adds {
		t.Errorf("P2.2: %d of %d Adds", got, goroutines*adds)
	}
	every := slices.Concat(seen...)
	slices.Sort(every)
	for i, n := range every {
		if n != i+1 {
			t.Fatalf("P2.2: the answers of all Adds are not 1, 2, ..: %d behind %d others", n, i)
		}
	}
}

func TestNoAddIsLostOnAnyCounter(t *testing.T) {
	const goroutines, adds = 6, 8000
	c := New()
	together(goroutines, func(g int) {
		for k := range adds {
			c.Add((g+k)%api.Counters, 1)
			c.Get(k % api.Counters)
			c.Raise(k%api.Counters, 1)
			c.All()
		}
	})
	// A Raise to 1 counts as one at most, and only ahead of a counter's first Add.
	for i, n := range c.All() {
		if want := goroutines * adds / api.Counters; n < want || n > want+1 {
			t.Errorf("P2.2: counter %d: %d of %d Adds", i, n, want)
		}
	}
}

func TestAddsAtOneTimeStayAtMost(t *testing.T) {
	const goroutines, adds = 8, 2000
	c := New()
	c.Raise(5, api.Most-goroutines*adds/2)
	above := make([]int, goroutines)
	together(goroutines, func(g int) {
		last := 0
		for range adds {
			n := c.Add(5, 1)
			if n > api.Most || n < last {
				above[g]++
			}
			last = n
		}
	})
	if got := c.Get(5); got != api.Most {
		t.Errorf("P2.2: %d, not Most", got)
	}
	for g, n := range above {
		if n != 0 {
			t.Errorf("P2.1: goroutine %d was told %d times of a number above Most, or that fell", g, n)
		}
	}
}

func TestRaisesAtOneTimeKeepTheGreatest(t *testing.T) {
	const goroutines, raises = 8, 5000
	c := New()
	short := make([]int, goroutines)
	together(goroutines, func(g int) {
		for k := range raises {
			if n := goroutines*k + g; c.Raise(6, n) < n {
				short[g]++
			}
		}
	})
	if got := c.Get(6); got != goroutines*raises-1 {
		t.Errorf("P2.1: %d, not %d", got, goroutines*raises-1)
	}
	if !slices.Equal(short, make([]int, goroutines)) {
		t.Errorf("P2.1: Raises that answered less than what was raised to: %v", short)
	}
}

func TestNilTally(t *testing.T) {
	var none *Tally
	for _, i := range append(noCounters(), 0, 1, api.Counters-1) {
		for _, n := range append([]int{0, 1, api.Most}, append(belowZero(), tooMany()...)...) {
			if got := none.Add(i, n); got != 0 {
				t.Errorf("R3: Add(%d, %d): %d", i, n, got)
			}
			if got := none.Raise(i, n); got != 0 {
				t.Errorf("R3: Raise(%d, %d): %d", i, n, got)
			}
		}
		if got := none.Get(i); got != 0 {
			t.Errorf("R3: Get(%d): %d", i, got)
		}
	}
	if got := none.All(); len(got) != 0 {
		t.Errorf("R3: All: %v", got)
	}
}

func TestWhatAllAnswersIsItsOwn(t *testing.T) {
	c := New()
	c.Add(1, 5)
	first, second := c.All(), c.All()
	want := slices.Clone(second)
	spare := first[:cap(first)]
	for i := range spare {
		spare[i] = 77
	}
	if !slices.Equal(second, want) || !slices.Equal(c.All(), want) || c.Get(0) != 0 || c.Get(1) != 5 {
		t.Errorf("R4: %v, %v", second, c.All())
	}
	c.Add(1, 1)
	if second[1] != 5 {
		t.Errorf("R4: an answer changed later: %v", second)
	}
}
