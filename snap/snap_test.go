package snap

import (
	"math"
	"slices"
	"strconv"
	"strings"
	"testing"
	"time"

	"staithe/api"
	"staithe/vm"
)

func TestTheChaptersExample(t *testing.T) {
	marks := []int{2, 4}
	if Due(marks, 3) || Reached(marks, 3) != 1 {
		t.Errorf("P20.1: %t, %d", Due(marks, 3), Reached(marks, 3))
	}
}

func TestMarks(t *testing.T) {
	for _, x := range []struct {
		marks   []int
		n       int
		due     bool
		reached int
	}{
		{nil, 0, false, 0}, {nil, 1, false, 0}, {nil, -1, false, 0}, {[]int{}, 0, false, 0}, {[]int{}, 9, false, 0},
		{[]int{3}, 2, false, 0}, {[]int{3}, 3, true, 1}, {[]int{3}, 4, false, 1},
		{[]int{0}, -1, false, 0}, {[]int{0}, 0, true, 1}, {[]int{0}, 1, false, 1},
		{[]int{-2}, -3, false, 0}, {[]int{-2}, -2, true, 1}, {[]int{-2}, 2, false, 1},
		{[]int{1, 3, 4, 6}, 0, false, 0}, {[]int{1, 3, 4, 6}, 1, true, 1}, {[]int{1, 3, 4, 6}, 2, false, 1},
		{[]int{1, 3, 4, 6}, 3, true, 2}, {[]int{1, 3, 4, 6}, 4, true, 3}, {[]int{1, 3, 4, 6}, 5, false, 3},
		{[]int{1, 3, 4, 6}, 6, true, 4}, {[]int{1, 3, 4, 6}, 7, false, 4}, {[]int{1, 3, 4, 6}, -3, false, 0},
	} {
		askMarks(t, x.marks, x.n, x.due, x.reached)
	}
}

func TestAMarkThatStandsThereTwice(t *testing.T) {
	for _, x := range []struct {
		marks   []int
		n       int
		due     bool
		reached int
	}{
		{[]int{2, 2}, 1, false, 0}, {[]int{2, 2}, 2, true, 2}, {[]int{2, 2}, 3, false, 2},
		{[]int{2, 2, 4}, 2, true, 2}, {[]int{2, 2, 4}, 3, false, 2}, {[]int{2, 2, 4}, 4, true, 3},
		{[]int{1, 4, 4}, 3, false, 1}, {[]int{1, 4, 4}, 4, true, 3}, {[]int{1, 4, 4}, 5, false, 3},
		{[]int{3, 3, 3, 3}, 2, false, 0}, {[]int{3, 3, 3, 3}, 3, true, 4},
		{[]int{4, 1, 4}, 3, false, 1}, {[]int{4, 1, 4}, 4, true, 3},
	} {
		askMarks(t, x.marks, x.n, x.due, x.reached)
	}
}

func TestMarksThatDoNotRise(t *testing.T) {
	for _, x := range []struct {
		marks   []int
		n       int
		due     bool
		reached int
	}{
		{[]int{6, 4, 3, 1}, 0, false, 0}, {[]int{6, 4, 3, 1}, 1, true, 1}, {[]int{6, 4, 3, 1}, 2, false, 1},
		{[]int{6, 4, 3, 1}, 4, true, 3}, {[]int{6, 4, 3, 1}, 5, false, 3}, {[]int{6, 4, 3, 1}, 6, true, 4}, {[]int{6, 4, 3, 1}, 7, false, 4},
		{[]int{4, 2}, 2, true, 1}, {[]int{4, 2}, 3, false, 1}, {[]int{4, 2}, 4, true, 2},
		{[]int{3, 9, 1, 7, 5}, 1, true, 1}, {[]int{3, 9, 1, 7, 5}, 4, false, 2}, {[]int{3, 9, 1, 7, 5}, 5, true, 3},
		{[]int{3, 9, 1, 7, 5}, 8, false, 4}, {[]int{3, 9, 1, 7, 5}, 9, true, 5},
		{[]int{0, -5, 5}, -5, true, 1}, {[]int{0, -5, 5}, -6, false, 0}, {[]int{0, -5, 5}, -1, false, 1},
	} {
		askMarks(t, x.marks, x.n, x.due, x.reached)
	}
}

func TestMarksAtTheEdgesOfTheType(t *testing.T) {
	marks := edges()
	for i, n := range marks {
		askMarks(t, marks, n, true, i+1)
		askMarks(t, nil, n, false, 0)
		for j, mark := range marks {
			reached := 0
			if j <= i {
				reached = 1
			}
			askMarks(t, []int{mark}, n, j == i, reached)
			askMarks(t, []int{mark, mark}, n, j == i, 2*reached)
		}
	}
}

func TestGrows(t *testing.T) {
	for _, x := range []struct {
		a, b         []int
		grows, falls bool
	}{
		{nil, nil, true, true}, {nil, []int{}, true, true}, {[]int{}, []int{}, true, true},
		{nil, []int{1}, true, false}, {[]int{}, []int{0}, true, false}, {nil, []int{-1, 5}, true, false},
		{[]int{1}, []int{1}, true, true}, {[]int{0}, []int{1}, false, false}, {[]int{0}, []int{0}, true, true},
		{[]int{0, 2, 5}, []int{0, 2, 5}, true, true},
		{[]int{0, 2, 5}, []int{5, 0, 2}, true, true}, {[]int{2, 1}, []int{1, 2}, true, true},
		{[]int{1, 1}, []int{1}, true, true}, {[]int{1, 2, 1}, []int{2, 1}, true, true}, {[]int{1, 1}, []int{2, 2}, false, false},
		{[]int{3, 3, 3}, []int{3, 4}, true, false},
		{[]int{0, 1}, []int{0, 1, 2}, true, false}, {[]int{0, 2}, []int{2, 1, 0}, true, false}, {[]int{2}, []int{0, 1, 2}, true, false},
		{[]int{0, 1, 3}, []int{0, 1, 2}, false, false}, {[]int{0, 1}, []int{1, 2}, false, false},
		{[]int{0}, []int{1, 2, 3}, false, false}, {[]int{9}, []int{1, 2, 3}, false, false}, {[]int{2}, []int{1, 3}, false, false},
		{[]int{1, 2, 3, 9}, []int{1, 2, 3, 4, 5}, false, false}, {[]int{9, 1, 2, 3}, []int{1, 2, 3, 4, 5}, false, false}, {[]int{1, 9, 2}, []int{1, 2, 3}, false, false},
	} {
		askGrows(t, x.a, x.b, x.grows)
		askGrows(t, x.b, x.a, x.falls)
	}
}

// TestGrowsAlongThreeLists has each of all small lists grow into a next one
// and that one into a third: the first then grows into the third.
func TestGrowsAlongThreeLists(t *testing.T) {
	var lists [][]int
	for n := range 64 {
		// Two numbers of 0 to 3 that fall or rise or stand there twice, and a third.
		lists = append(lists, []int{n % 4, n / 4 % 4, n / 16}[:n%3+1])
	}
	chains := 0
	for _, a := range lists {
		for _, b := range lists {
			for _, c := range lists {
				if Grows(a, b) && Grows(b, c) {
					chains++
					askGrows(t, a, c, true)
				}
			}
		}
	}
	if chains < 1000 {
		t.Errorf("P20.1: but %d rows of three lists grow", chains)
	}
	askGrows(t, []int{2, 0}, []int{0, 1, 2}, true)
	askGrows(t, []int{0, 1, 2}, []int{3, 2, 1, 0}, true)
	askGrows(t, []int{2, 0}, []int{3, 2, 1, 0}, true)
	askGrows(t, []int{3, 2, 1, 0}, []int{2, 0}, false)
}

func TestGrowsAtTheEdgesOfTheType(t *testing.T) {
	all := edges()
	askGrows(t, all, all, true)
	falling := slices.Clone(all)
	slices.Reverse(falling)
	askGrows(t, all, falling, true)
	for i, x := range all {
		less := append(slices.Clone(falling[:len(all)-1-i]), falling[len(all)-i:]...)
		askGrows(t, less, all, true)
		askGrows(t, all, less, false)
		askGrows(t, []int{x}, less, false)
		askGrows(t, []int{x}, falling, true)
		for j, y := range all {
			askGrows(t, []int{x}, []int{y}, i == j)
		}
	}
}

func TestOfNothing(t *testing.T) {
	for _, runs := range [][][]api.Pair{nil, {}, {nil}, {{}}, {nil, {}, nil}} {
		for _, p := range [][]api.Ins{nil, {}, each(), turns(api.Type, api.Under), {{Op: 99}}, make([]api.Ins, mostIns+1)} {
			for _, fuel := range []int{math.MinInt, -1, 0, 9, math.MaxInt} {
				askOf(t, p, fuel, runs, nil, api.Fine)
			}
		}
	}
	if told, why := Of(each(), 9); len(told) != 0 || why != api.Fine {
		t.Errorf("P20.1: Of no run: %s, %d", brief(told), why)
	}
}

func TestOfRuns(t *testing.T) {
	a, b, c := list("a:1", "c:2", "c:0"), list("a:0", "b:3", "c:2"), list("a:1", "d:5")
	for _, x := range []struct {
		what string
		runs [][]api.Pair
		want []api.Pair
	}{
		{"one", [][]api.Pair{a}, a},
		{"one of one pair", [][]api.Pair{list("k:v")}, list("k:v")},
		{"two", [][]api.Pair{a, b}, list("a:1", "a:0", "b:3", "c:2", "c:0", "c:2")},
		{"two, the other way round", [][]api.Pair{b, a}, list("a:0", "a:1", "b:3", "c:2", "c:2", "c:0")},
		{"three", [][]api.Pair{a, b, c}, list("a:1", "a:0", "a:1", "b:3", "c:2", "c:0", "c:2", "d:5")},
		{"three, in another order", [][]api.Pair{c, b, a}, list("a:1", "a:0", "a:1", "b:3", "c:2", "c:2", "c:0", "d:5")},
		{"one twice", [][]api.Pair{c, c}, list("a:1", "a:1", "d:5", "d:5")},
		{"some of no pairs", [][]api.Pair{nil, a, {}, nil, c, {}}, list("a:1", "a:1", "c:2", "c:0", "d:5")},
		{"some in no order", [][]api.Pair{list("b:1", "a:2", "b:0"), list("b:9", "a:8", "b:7")}, list("a:2", "a:8", "b:1", "b:0", "b:9", "b:7")},
		{"keys of any bytes", [][]api.Pair{list("\xff:1", "b:2"), list("é:3", ":4", "\x80:5"), list("B:6", "\x00:7", ":8")},
			list(":4", ":8", "\x00:7", "B:6", "b:2", "\x80:5", "é:3", "\xff:1")},
	} {
		if told, why := Of(each(), 99, x.runs...); !slices.Equal(told, x.want) || why != api.Fine {
			t.Errorf("P20.1: Of %s: %s, %d, not %s", x.what, brief(told), why, brief(x.want))
		}
	}
	askOf(t, first(), 9, [][]api.Pair{a, b, c}, list("a:1", "b:3", "c:2", "d:5"), api.Fine)
	askOf(t, first(), 9, [][]api.Pair{b, a, c}, list("a:0", "b:3", "c:2", "d:5"), api.Fine)
}

func TestOfAnotherKeyThanTheRuns(t *testing.T) {
	// A reduce may tell whatever key: what a combine may not is fine here.
	runs := [][]api.Pair{list("a:1", "c:2"), list("b:0", "a:9")}
	askOf(t, other(), 9, runs, list("other:1", "other:0", "other:2"), api.Fine)
}

func TestOfNoInstruction(t *testing.T) {
	runs := [][]api.Pair{list("b:1", "c:2"), list("a:0", "b:9")}
	for _, p := range [][]api.Ins{nil, {}} {
		for _, fuel := range []int{0, 1, 9, mostFuel, math.MaxInt} {
			askOf(t, p, fuel, runs, nil, api.Fine)
		}
		askOf(t, p, -1, runs, nil, api.Type)
	}
}

func TestReasons(t *testing.T) {
	for _, y := range reasons() {
		for _, z := range reasons() {
			p := turns(y, z)
			askOf(t, p, mostFuel, [][]api.Pair{list("a:1", "b:2"), list("a:0", "x:1")}, list("a:1", "a:0", "b:2", "x:1"), api.Fine)
			askOf(t, p, mostFuel, [][]api.Pair{list("y:1")}, nil, y)
			askOf(t, p, mostFuel, [][]api.Pair{list("z:1")}, nil, z)
			askOf(t, p, mostFuel, [][]api.Pair{list("a:1", "z:1"), list("b:1")}, nil, z)
			askOf(t, p, mostFuel, [][]api.Pair{list("b:1"), list("a:1", "y:1"), list("zz:1")}, nil, y)
			// The lesser key's run is first, whichever run has it.
			askOf(t, p, mostFuel, [][]api.Pair{list("z:1"), list("y:1")}, nil, y)
			askOf(t, p, mostFuel, [][]api.Pair{list("a:1", "y:1"), list("a:0", "z:1")}, nil, y)
			askOf(t, p, mostFuel, [][]api.Pair{list("z:1"), nil, list("z:2", "zz:1"), list("a:1")}, nil, z)
		}
	}
}

func TestWhatMayNotBe(t *testing.T) {
	runs := [][]api.Pair{list("b:1"), list("a:2")}
	for _, p := range [][]api.Ins{{{Op: 99}}, {{Op: -1}}, {{Op: api.OpJump, A: 2}}, make([]api.Ins, mostIns+1)} {
		askOf(t, p, 9, runs, nil, api.Type)
		askOf(t, p, -9, runs, nil, api.Type)
	}
	for _, fuel := range []int{-1, -2, math.MinInt} {
		askOf(t, first(), fuel, runs, nil, api.Type)
	}
	askOf(t, make([]api.Ins, mostIns), 9, runs, nil, api.Fine)
	longest := strings.Repeat("k", mostKey)
	askOf(t, first(), 9, [][]api.Pair{list(longest + ":1"), runs[0]}, list("b:1", longest+":1"), api.Fine)
	askOf(t, first(), 9, [][]api.Pair{list(longest + "k:1"), runs[0]}, nil, api.Big)
	long := strings.Repeat("v", mostBytes)
	askOf(t, first(), 9, [][]api.Pair{list("a:" + long), runs[0]}, list("a:"+long, "b:1"), api.Fine)
	askOf(t, first(), 9, [][]api.Pair{list("a:v" + long), runs[0]}, nil, api.Big)
}

func TestFuel(t *testing.T) {
	few, many := list("a:1", "c:1"), list("a:2", "b:1", "b:2", "b:3", "c:2")
	runs := [][]api.Pair{few, many}
	all := list("a:1", "a:2", "b:1", "b:2", "b:3", "c:1", "c:2")
	// The longest run, of three values, says what suffices; each has its own.
	askOf(t, each(), 7*3+3, runs, all, api.Fine)
	askOf(t, each(), 7*3+2, runs, nil, api.Fuel)
	askOf(t, each(), math.MaxInt, runs, all, api.Fine)
	askOf(t, each(), 0, runs, nil, api.Fuel)
	// A key's values stand in two runs: it has but one run of the program.
	askOf(t, each(), 7*2+3, [][]api.Pair{few, list("a:2")}, list("a:1", "a:2", "c:1"), api.Fine)
	askOf(t, each(), 7*2+2, [][]api.Pair{few, list("a:2")}, nil, api.Fuel)
	askOf(t, first(), 4, runs, list("a:1", "b:1", "c:1"), api.Fine)
	askOf(t, first(), 3, runs, nil, api.Fuel)
	most := [][]api.Pair{keyed("k", 20), keyed("m", 20)}
	askOf(t, first(), 4, most, slices.Concat(most...), api.Fine)
	askOf(t, first(), 3, most, nil, api.Fuel)
	if need := vm.Steps(each(), "b", []string{"1", "2", "3"}, mostFuel); need != 7*3+3 {
		t.Errorf("the tests' own program takes %d instructions", need)
	}
}

func TestFuelAboveAllIsTheMost(t *testing.T) {
	// Of n values 4*n+3 instructions, and none told.
	passes := []api.Ins{{Op: api.OpNext}, {Op: api.OpIf, A: 3}, {Op: api.OpHalt}, {Op: api.OpDrop}, {Op: api.OpJump}}
	values := list(strings.Split(strings.Repeat("k:v ", 499), " ")[:499]...)
	for _, fuel := range []int{mostFuel - 1, mostFuel, mostFuel + 1, 1 << 32, math.MaxInt} {
		askOf(t, passes, fuel, [][]api.Pair{values}, nil, api.Fine)
		askOf(t, passes, fuel, [][]api.Pair{values, list("k:v")}, nil, api.Fuel)
	}
	askOf(t, passes, mostFuel-2, [][]api.Pair{values}, nil, api.Fuel)
}

func TestMorePairsThanMayBe(t *testing.T) {
	for _, counts := range [][]int{{40}, {20, 20}, {1, 39}, {39, 1}, {0, 40, 0}, {10, 10, 10, 10}} {
		var runs, over [][]api.Pair
		for i, n := range counts {
			runs = append(runs, keyed(strconv.Itoa(i), n))
		}
		askOf(t, first(), 9, runs, slices.Concat(runs...), api.Fine)
		over = append(append(over, runs...), list("z:1"))
		askOf(t, first(), 9, over, nil, api.Many)
		over[len(runs)] = list(":1")
		askOf(t, first(), 9, over, nil, api.Many)
		// Of a key that is there two values are one run's, which tells the first.
		over[len(runs)] = runs[slices.Index(counts, slices.Max(counts))][:1]
		askOf(t, first(), 9, over, slices.Concat(runs...), api.Fine)
		askOf(t, each(), 99, over, nil, api.Many)
		// A run's own reason goes ahead, though it is a later one.
		for _, z := range reasons() {
			askOf(t, turns(z, z), mostFuel, append(append([][]api.Pair{list("a:1")}, runs...), list("z:1")), nil, z)
		}
	}
}

func TestManyRunsAndLongLists(t *testing.T) {
	begin := time.Now()
	const n = 200000
	all, falling := make([]int, n), make([]int, n)
	runs := make([][]api.Pair, n)
	for i := range n {
		all[i], falling[i] = i, n-1-i
		runs[i] = list("k" + strconv.Itoa((i*7)%30) + ":" + strconv.Itoa(i))
	}
	askMarks(t, all, n-1, true, n)
	askMarks(t, falling, n/2, true, n/2+1)
	askMarks(t, falling, n, false, n)
	askGrows(t, all, falling, true)
	askGrows(t, falling, all, true)
	askGrows(t, append(slices.Clone(falling), n), all, false)
	askGrows(t, slices.Repeat([]int{n - 1}, n), all, true)
	told, why := Of(first(), 4, runs...)
	if len(told) != 30 || why != api.Fine || told[0] != list("k0:0")[0] {
		wrong(t, "P20.1: Of %d runs: %s, %d", n, brief(told), why)
	}
	askOf(t, first(), 9, [][]api.Pair{keyed("k", 9000), keyed("m", 100000)}, nil, api.Many)
	if took := time.Since(begin); took > 10*time.Second {
		t.Errorf("P20.1: many runs and long lists took %v", took)
	}
}
