package prog

import (
	"math"
	"math/rand"
	"slices"
	"strings"
	"sync"
	"testing"

	"staithe/api"
)

// plain answers n instructions that may be and go nowhere.
func plain(n int) []api.Ins {
	p := make([]api.Ins, n)
	for i := range p {
		p[i].Op = api.OpAdd
	}
	return p
}

// with answers n instructions that may be, but the one at place at, which is ins.
func with(n, at int, ins api.Ins) []api.Ins {
	p := plain(n)
	p[at] = ins
	return p
}

// want holds Bad and May against what Bad must tell.
func want(t *testing.T, what string, p []api.Ins, place int) {
	t.Helper()
	if got := Bad(p); got != place {
		t.Errorf("P5.1: %s: Bad tells %d, not %d", what, got, place)
	}
	if May(p) != (place == -1) {
		t.Errorf("P5.1: %s: May tells %v", what, May(p))
	}
	if place != -1 && len(Targets(p)) != 0 {
		t.Errorf("P5.1: %s: Targets of what may not be", what)
	}
}

func TestTheChaptersExamples(t *testing.T) {
	want(t, "OpKey, OpJump 3", []api.Ins{{Op: api.OpKey}, {Op: api.OpJump, A: 3}}, 1)
	want(t, "OpJump 1", []api.Ins{{Op: api.OpJump, A: 1}}, -1)
}

func TestNoInstructionsMayBe(t *testing.T) {
	want(t, "nil", nil, -1)
	want(t, "none", []api.Ins{}, -1)
	if len(Targets(nil)) != 0 || len(Targets([]api.Ins{})) != 0 {
		t.Error("P5.1: targets of no instructions")
	}
}

// takesA and takesS tell what the document says of each operation, apart from
// the program's own switch.
func takesA(op int) bool {
	return slices.Contains([]int{api.OpInt, api.OpJump, api.OpIf, api.OpLoad, api.OpStore}, op)
}

func takesS(op int) bool { return op == api.OpBytes }

func TestEachOperation(t *testing.T) {
	for op := api.OpHalt; op <= api.OpEmit; op++ {
		want(t, "an operation alone", []api.Ins{{Op: op}}, -1)
		a, s := 0, 0
		if takesA(op) {
			a = -1
		}
		if takesS(op) {
			s = -1
		}
		want(t, "with an A of 1", []api.Ins{{Op: op, A: 1}}, a)
		want(t, "with a byte", []api.Ins{{Op: op, S: "x"}}, s)
		want(t, "with a byte of 0", []api.Ins{{Op: op, S: "\x00"}}, s)
		want(t, "with an A and a byte", []api.Ins{{Op: op, A: 1, S: "x"}}, 0)
		if op != api.OpInt {
			for _, n := range []int{-1, math.MaxInt, math.MinInt, 1 << 32, -1 << 32} {
				want(t, "with an A far off", []api.Ins{{Op: op, A: n}}, 0)
			}
		}
	}
}

func TestOperationsThatAreNone(t *testing.T) {
	for _, op := range []int{api.OpHalt - 1, api.OpEmit + 1, -24, 99, 256, 1 << 32, 1<<32 + api.OpAdd, math.MaxInt, math.MinInt} {
		want(t, "no such operation", []api.Ins{{Op: op}}, 0)
		want(t, "no such operation, last", with(3, 2, api.Ins{Op: op}), 2)
		want(t, "no such operation, with an A", []api.Ins{{Op: op, A: 1}}, 0)
	}
}

func TestWhereJumpsMayGo(t *testing.T) {
	for _, op := range []int{api.OpJump, api.OpIf} {
		for _, n := range []int{1, 2, 7, api.MaxIns} {
			for _, at := range []int{0, n / 2, n - 1} {
				for a := -2; a <= n+2; a++ {
					place := at
					if a >= 0 && a <= n {
						place = -1
					}
					want(t, "a jump", with(n, at, api.Ins{Op: op, A: a}), place)
				}
				want(t, "a jump far off", with(n, at, api.Ins{Op: op, A: math.MaxInt}), at)
				want(t, "a jump with bytes", with(n, at, api.Ins{Op: op, S: "x"}), at)
			}
		}
	}
}

func TestRegisters(t *testing.T) {
	for _, op := range []int{api.OpLoad, api.OpStore} {
		for a := -2; a <= api.Registers+2; a++ {
			place := 1
			if a >= 0 && a < api.Registers {
				place = -1
			}
			want(t, "a register", with(20, 1, api.Ins{Op: op, A: a}), place)
		}
		want(t, "a register with bytes", []api.Ins{{Op: op, A: 2, S: "x"}}, 0)
	}
}

func TestBytesOfOpBytes(t *testing.T) {
	for n, place := range map[int]int{0: -1, 1: -1, api.MaxBytes - 1: -1, api.MaxBytes: -1, api.MaxBytes + 1: 0, 1 << 20: 0} {
		want(t, "bytes", []api.Ins{{Op: api.OpBytes, S: strings.Repeat("x", n)}}, place)
	}
	// Bytes are counted, not runes.
	want(t, "runes of two bytes", []api.Ins{{Op: api.OpBytes, S: strings.Repeat("ä", api.MaxBytes/2)}}, -1)
	want(t, "too many runes of two bytes", []api.Ins{{Op: api.OpBytes, S: strings.Repeat("ä", api.MaxBytes/2) + "x"}}, 0)
	want(t, "bytes that are no runes", []api.Ins{{Op: api.OpBytes, S: strings.Repeat("\xff", api.MaxBytes)}}, -1)
	want(t, "bytes and an A", []api.Ins{{Op: api.OpBytes, A: 1, S: "x"}}, 0)
	want(t, "bytes and an A below 0", []api.Ins{{Op: api.OpBytes, A: -1}}, 0)
}

func TestNumbersOfOpInt(t *testing.T) {
	for _, a := range []int{0, 1, -1, math.MaxInt, math.MinInt, 1 << 40} {
		want(t, "a number", []api.Ins{{Op: api.OpInt, A: a}}, -1)
		want(t, "a number with bytes", []api.Ins{{Op: api.OpInt, A: a, S: "x"}}, 0)
	}
}

func TestTheFirstOfSeveral(t *testing.T) {
	bad := []api.Ins{{Op: -1}, {Op: api.OpJump, A: 99}, {Op: api.OpStore, A: 8}, {Op: api.OpAdd, A: 1}, {Op: api.OpHalt, S: "x"}}
	for first := range 9 {
		p := plain(first)
		for i := range bad {
			p = append(p, bad[(i+first)%len(bad)])
		}
		want(t, "several", append(p, plain(3)...), first)
	}
}

func TestHowManyMayBe(t *testing.T) {
	wrong := api.Ins{Op: 99}
	for _, n := range []int{api.MaxIns - 1, api.MaxIns} {
		want(t, "as many as may be", plain(n), -1)
		want(t, "the last may not", with(n, n-1, wrong), n-1)
	}
	for _, n := range []int{api.MaxIns + 1, 2 * api.MaxIns, 100000} {
		want(t, "too many", plain(n), api.MaxIns)
		want(t, "too many, the last may not", with(n, n-1, wrong), api.MaxIns)
		want(t, "too many, the one at MaxIns may not", with(n, api.MaxIns, wrong), api.MaxIns)
		want(t, "too many, the one ahead of MaxIns may not", with(n, api.MaxIns-1, wrong), api.MaxIns-1)
		want(t, "too many, the first may not", with(n, 0, wrong), 0)
		// All instructions that there are count for where a jump may go.
		for _, op := range []int{api.OpJump, api.OpIf} {
			want(t, "too many, a jump behind the last", with(n, 3, api.Ins{Op: op, A: n}), api.MaxIns)
			want(t, "too many, a jump behind MaxIns", with(n, 3, api.Ins{Op: op, A: api.MaxIns + 1}), api.MaxIns)
			want(t, "too many, a jump too far", with(n, 3, api.Ins{Op: op, A: n + 1}), 3)
		}
	}
}

func TestTargets(t *testing.T) {
	for _, x := range []struct {
		what string
		p    []api.Ins
		want []int
	}{
		{"no jumps", plain(5), nil},
		{"numbers and registers are none", []api.Ins{{Op: api.OpInt, A: 2}, {Op: api.OpLoad, A: 1}, {Op: api.OpStore, A: 3}}, nil},
		{"one behind the last", []api.Ins{{Op: api.OpJump, A: 1}}, []int{1}},
		{"one to itself", []api.Ins{{Op: api.OpIf}}, []int{0}},
		{"falling", []api.Ins{{Op: api.OpJump, A: 3}, {Op: api.OpIf, A: 2}, {Op: api.OpJump, A: 0}}, []int{0, 2, 3}},
		{"each once", []api.Ins{{Op: api.OpJump, A: 2}, {Op: api.OpIf, A: 0}, {Op: api.OpIf, A: 2}, {Op: api.OpJump, A: 0}}, []int{0, 2}},
		{"a jump too far beside one that may be", []api.Ins{{Op: api.OpJump, A: 1}, {Op: api.OpJump, A: 3}}, nil},
		{"too many", with(api.MaxIns+1, 0, api.Ins{Op: api.OpJump, A: 2}), nil},
	} {
		if got := Targets(x.p); !slices.Equal(got, x.want) {
			t.Errorf("P5.1: %s: %v", x.what, got)
		}
	}
}

func TestTargetsOfTheLongest(t *testing.T) {
	p := plain(api.MaxIns)
	var all []int
	for i := range p {
		p[i] = api.Ins{Op: api.OpJump + i%2, A: api.MaxIns - i}
		all = append(all, i+1)
	}
	if got := Targets(p); !slices.Equal(got, all) {
		t.Errorf("P5.1: %v", got)
	}
}

func TestTargetsOfMany(t *testing.T) {
	draw := rand.New(rand.NewSource(5))
	for range 3000 {
		p := plain(1 + draw.Intn(api.MaxIns))
		var seen [api.MaxIns + 1]bool
		for i := range p {
			p[i] = api.Ins{Op: []int{api.OpInt, api.OpJump, api.OpIf}[draw.Intn(3)], A: draw.Intn(len(p) + 1)}
			if p[i].Op != api.OpInt {
				seen[p[i].A] = true
			}
		}
		var all []int
		for place, is := range seen {
			if is {
				all = append(all, place)
			}
		}
		if got := Targets(p); !slices.Equal(got, all) {
			t.Fatalf("P5.1: %v: %v", p, got)
		}
	}
}

func TestNothingIsChangedNorShared(t *testing.T) {
	room := []api.Ins{{Op: api.OpJump, A: 2}, {Op: api.OpIf, A: 0}, {Op: api.OpJump, A: 2}, {Op: 77, A: 7, S: "room"}}
	before := slices.Clone(room)
	p := room[:3]
	first, second := Targets(p), Targets(p)
	for i := range first {
		first[i] = 99
	}
	clear(first[:cap(first)])
	if !slices.Equal(second, []int{0, 2}) || !slices.Equal(Targets(p), []int{0, 2}) {
		t.Errorf("R4: another answer turned: %v", second)
	}
	Bad(p)
	May(p)
	if !slices.Equal(room, before) {
		t.Errorf("R4: what was handed in turned: %v", room)
	}
}

func TestSeveralAtOneTime(t *testing.T) {
	p := []api.Ins{{Op: api.OpJump, A: 2}, {Op: api.OpIf, A: 0}, {Op: api.OpEmit}}
	var all sync.WaitGroup
	for range 8 {
		all.Go(func() {
			for range 200 {
				if Bad(p) != -1 || !May(p) || !slices.Equal(Targets(p), []int{0, 2}) {
					t.Error("R5: several goroutines at one time")
				}
			}
		})
	}
	all.Wait()
}
