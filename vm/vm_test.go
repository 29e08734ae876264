package vm

import (
	"fmt"
	"math"
	"math/big"
	"slices"
	"strconv"
	"strings"
	"sync"
	"testing"

	"staithe/api"
)

const (
	least    = math.MinInt64
	greatest = math.MaxInt64
)

// ops are instructions without A and S.
func ops(l ...int) []api.Ins {
	var p []api.Ins
	for _, op := range l {
		p = append(p, api.Ins{Op: op})
	}
	return p
}

func op(n int) api.Ins     { return api.Ins{Op: n} }
func num(n int) api.Ins    { return api.Ins{Op: api.OpInt, A: n} }
func str(s string) api.Ins { return api.Ins{Op: api.OpBytes, S: s} }
func load(a int) api.Ins   { return api.Ins{Op: api.OpLoad, A: a} }
func store(a int) api.Ins  { return api.Ins{Op: api.OpStore, A: a} }
func jump(a int) api.Ins   { return api.Ins{Op: api.OpJump, A: a} }
func jumpIf(a int) api.Ins { return api.Ins{Op: api.OpIf, A: a} }
func long(n int) string    { return strings.Repeat("x", n) }
func join(ps ...[]api.Ins) (p []api.Ins) {
	for _, l := range ps {
		p = append(p, l...)
	}
	return p
}

// fill answers n instructions that push n values, none of them 0 or empty.
func fill(n int) []api.Ins {
	p := make([]api.Ins, n)
	for i := range p {
		p[i] = num(-1 - i)
	}
	return p
}

// ends holds a run against the reason and the steps that it must have; beside
// a reason nothing may be told.
func ends(t *testing.T, what string, p []api.Ins, key string, values []string, fuel, why, steps int) {
	t.Helper()
	told, got := Run(p, key, values, fuel)
	if got != why {
		t.Errorf("P6.1: %s: reason %d, not %d", what, got, why)
	}
	if got != api.Fine && len(told) != 0 {
		t.Errorf("R2: %s: told %v beside reason %d", what, told, got)
	}
	if done := Steps(p, key, values, fuel); done != steps {
		t.Errorf("P6.2: %s: %d steps, not %d", what, done, steps)
	}
}

// fails runs p, whose last instruction must end it for that reason.
func fails(t *testing.T, what string, p []api.Ins, why int) {
	t.Helper()
	ends(t, what, p, "k", []string{"v"}, api.MaxFuel, why, len(p))
}

// runs runs p, which must be done to its end, each instruction once.
func runs(t *testing.T, what string, p []api.Ins) {
	t.Helper()
	ends(t, what, p, "k", []string{"v"}, api.MaxFuel, api.Fine, len(p))
}

// leaves asks whether just these values (each pushed by an instruction), the
// top one last, are on the stack behind p: each is held against what it must
// be, and behind the last there is nothing more to drop.
func leaves(t *testing.T, what string, p []api.Ins, key string, values []string, want ...api.Ins) {
	t.Helper()
	p = slices.Clone(p)
	for _, w := range slices.Backward(want) {
		p = append(p, w, op(api.OpEq), jumpIf(len(p)+4), op(api.OpHalt))
	}
	all := append(slices.Clone(p), str("all"), str("same"), op(api.OpEmit))
	told, why := Run(all, key, values, api.MaxFuel)
	if why != api.Fine || !slices.Equal(told, []api.Pair{{Key: "all", Value: "same"}}) {
		t.Errorf("P6.1: %s: %v is not on the stack: %v, %d", what, want, told, why)
	}
	if told, why := Run(append(p, op(api.OpDrop)), key, values, api.MaxFuel); why != api.Under {
		t.Errorf("P6.1: %s: more than %v is on the stack: %v, %d", what, want, told, why)
	}
}

// left is leaves with a key and two values, and with something below that
// must stay as it is.
func left(t *testing.T, what string, p []api.Ins, want ...api.Ins) {
	t.Helper()
	values := []string{"v", "w"}
	leaves(t, what, p, "k", values, want...)
	below := []api.Ins{str("below"), num(77)}
	leaves(t, what+", above others", join(below, moved(p, len(below))), "k", values, join(below, want)...)
}

// moved answers p with its jumps going n places further.
func moved(p []api.Ins, n int) []api.Ins {
	p = slices.Clone(p)
	for i := range p {
		if p[i].Op == api.OpJump || p[i].Op == api.OpIf {
			p[i].A += n
		}
	}
	return p
}

func TestTheChaptersExamples(t *testing.T) {
	p := ops(api.OpKey, api.OpNext, api.OpDrop, api.OpEmit)
	told, why := Run(p, "k", []string{"a", "b"}, api.MaxFuel)
	if why != api.Fine || !slices.Equal(told, []api.Pair{{Key: "k", Value: "a"}}) {
		t.Errorf("P6.1: %v, %d", told, why)
	}
	ends(t, "OpJump 0", []api.Ins{jump(0)}, "k", []string{"a", "b"}, 5, api.Fuel, 5)
}

func TestWhatEachOperationPushes(t *testing.T) {
	for _, x := range []struct {
		what string
		p    []api.Ins
		want []api.Ins
	}{
		{"OpInt", []api.Ins{num(-5)}, []api.Ins{num(-5)}},
		{"OpInt, least", []api.Ins{num(least)}, []api.Ins{num(least)}},
		{"OpInt, greatest", []api.Ins{num(greatest)}, []api.Ins{num(greatest)}},
		{"OpBytes", []api.Ins{str("a\x00\xff")}, []api.Ins{str("a\x00\xff")}},
		{"OpBytes, none", []api.Ins{str("")}, []api.Ins{str("")}},
		{"OpDup of a number", []api.Ins{num(4), op(api.OpDup)}, []api.Ins{num(4), num(4)}},
		{"OpDup of bytes", []api.Ins{num(3), str("a"), op(api.OpDup)}, []api.Ins{num(3), str("a"), str("a")}},
		{"OpDrop of a number", []api.Ins{str("a"), num(4), op(api.OpDrop)}, []api.Ins{str("a")}},
		{"OpDrop of bytes", []api.Ins{num(4), str("a"), op(api.OpDrop)}, []api.Ins{num(4)}},
		{"OpSwap", []api.Ins{num(1), str("a"), op(api.OpSwap)}, []api.Ins{str("a"), num(1)}},
		{"OpSwap of numbers", []api.Ins{num(0), num(1), num(2), op(api.OpSwap)}, []api.Ins{num(0), num(2), num(1)}},
		{"OpKey", ops(api.OpKey, api.OpKey), []api.Ins{str("k"), str("k")}},
		{"OpNext", ops(api.OpNext), []api.Ins{str("v"), num(1)}},
		{"OpNext, all", ops(api.OpNext, api.OpNext, api.OpNext), []api.Ins{str("v"), num(1), str("w"), num(1), num(0)}},
		{"OpAdd", []api.Ins{num(2), num(3), op(api.OpAdd)}, []api.Ins{num(5)}},
		{"OpSub", []api.Ins{num(2), num(3), op(api.OpSub)}, []api.Ins{num(-1)}},
		{"OpMul", []api.Ins{num(-2), num(3), op(api.OpMul)}, []api.Ins{num(-6)}},
		{"OpLess", []api.Ins{num(2), num(3), op(api.OpLess)}, []api.Ins{num(1)}},
		{"OpLess, more", []api.Ins{num(3), num(2), op(api.OpLess)}, []api.Ins{num(0)}},
		{"OpEq", []api.Ins{str("a"), str("a"), op(api.OpEq)}, []api.Ins{num(1)}},
		{"OpCat", []api.Ins{str("ab"), str("c"), op(api.OpCat)}, []api.Ins{str("abc")}},
		{"OpCat of none", []api.Ins{str(""), str(""), op(api.OpCat)}, []api.Ins{str("")}},
		{"OpLen", []api.Ins{str("abc"), op(api.OpLen)}, []api.Ins{num(3)}},
		{"OpLen of none", []api.Ins{str(""), op(api.OpLen)}, []api.Ins{num(0)}},
		{"OpLen counts bytes", []api.Ins{str("\u00e9"), op(api.OpLen)}, []api.Ins{num(2)}},
		{"OpAt", []api.Ins{str("abc"), num(1), op(api.OpAt)}, []api.Ins{num(98)}},
		{"OpCut", []api.Ins{str("abcd"), num(1), num(3), op(api.OpCut)}, []api.Ins{str("bc")}},
		{"OpText", []api.Ins{num(-12), op(api.OpText)}, []api.Ins{str("-12")}},
		{"OpNum", []api.Ins{str("-12"), op(api.OpNum)}, []api.Ins{num(-12)}},
		{"OpJump", []api.Ins{jump(2), num(5), num(6)}, []api.Ins{num(6)}},
		{"OpLoad", []api.Ins{load(3)}, []api.Ins{num(0)}},
		{"OpStore", []api.Ins{num(8), num(9), store(3)}, []api.Ins{num(8)}},
	} {
		left(t, x.what, x.p, x.want...)
	}
}

func TestHaltEndsAtOnce(t *testing.T) {
	p := []api.Ins{str("a"), str("b"), op(api.OpEmit), op(api.OpHalt), op(api.OpDrop), str("c"), str("d"), op(api.OpEmit)}
	told, why := Run(p, "k", nil, 9)
	if why != api.Fine || !slices.Equal(told, []api.Pair{{Key: "a", Value: "b"}}) || Steps(p, "k", nil, 9) != 4 {
		t.Errorf("P6.1: %v, %d", told, why)
	}
}

func TestEmitTakesBothOffAndTellsThem(t *testing.T) {
	p := []api.Ins{num(8), str("a"), str("b"), op(api.OpEmit)}
	told, why := Run(append(p, op(api.OpText), op(api.OpKey), op(api.OpEmit)), "k", nil, 9)
	if why != api.Fine || !slices.Equal(told, []api.Pair{{Key: "a", Value: "b"}, {Key: "8", Value: "k"}}) {
		t.Errorf("P6.1: %v, %d", told, why)
	}
	fails(t, "nothing is left below", append(p, op(api.OpDrop), op(api.OpDrop)), api.Under)
}

// needs tells of each operation what it needs on the stack, the top one last:
// n a number, b bytes, e either.
var needs = map[int]string{
	api.OpHalt: "", api.OpInt: "", api.OpBytes: "", api.OpDup: "e", api.OpDrop: "e", api.OpSwap: "ee",
	api.OpKey: "", api.OpNext: "", api.OpAdd: "nn", api.OpSub: "nn", api.OpMul: "nn", api.OpLess: "nn",
	api.OpEq: "ee", api.OpCat: "bb", api.OpLen: "b", api.OpAt: "bn", api.OpCut: "bnn", api.OpText: "n",
	api.OpNum: "b", api.OpJump: "", api.OpIf: "n", api.OpLoad: "", api.OpStore: "e", api.OpEmit: "bb",
}

// grows tells by how many more the stack is behind each operation, if there
// is a value to take and if there is none.
func grows(op int, none bool) int {
	switch op {
	case api.OpInt, api.OpBytes, api.OpDup, api.OpKey, api.OpLoad:
		return 1
	case api.OpNext:
		if none {
			return 1
		}
		return 2
	}
	return -1
}

// at answers the operation as an instruction of a program of count ones; a
// jump goes behind the last.
func at(n, count int) api.Ins {
	if n == api.OpJump || n == api.OpIf {
		return api.Ins{Op: n, A: count}
	}
	return op(n)
}

// pushes answers instructions that push values of these kinds.
func pushes(kinds string) []api.Ins {
	var p []api.Ins
	for _, k := range kinds {
		if k == 'b' {
			p = append(p, str("7"))
		} else {
			p = append(p, num(7))
		}
	}
	return p
}

// everyKinds answers all lists of n kinds.
func everyKinds(n int) []string {
	all := []string{""}
	for range n {
		var more []string
		for _, l := range all {
			more = append(more, l+"n", l+"b")
		}
		all = more
	}
	return all
}

func TestTooFewOnTheStack(t *testing.T) {
	if len(needs) != api.OpEmit+1 {
		t.Fatal("an operation is not asked")
	}
	for n, needed := range needs {
		for depth := range len(needed) {
			for _, kinds := range everyKinds(depth) {
				p := append(pushes(kinds), at(n, depth+1))
				fails(t, fmt.Sprintf("operation %d on %q", n, kinds), p, api.Under)
			}
		}
	}
}

func TestOneOfAnotherKind(t *testing.T) {
	for n, needed := range needs {
		for _, kinds := range everyKinds(len(needed)) {
			why := api.Fine
			for i := range needed {
				if needed[i] != 'e' && needed[i] != kinds[i] {
					why = api.Type
				}
			}
			what := fmt.Sprintf("operation %d on %q", n, kinds)
			fails(t, what, append(pushes(kinds), at(n, len(kinds)+1)), why)
			for _, below := range []string{"n", "b"} {
				fails(t, what+" above "+below, append(pushes(below+kinds), at(n, len(kinds)+2)), why)
			}
		}
	}
}

func TestTheStackFull(t *testing.T) {
	for n, needed := range needs {
		kinds := strings.ReplaceAll(needed, "e", "b")
		for _, values := range [][]string{nil, {"v"}} {
			for depth := api.MaxStack - 2; depth <= api.MaxStack; depth++ {
				p := append(fill(depth-len(kinds)), pushes(kinds)...)
				p = append(p, at(n, depth+1))
				why := api.Fine
				if depth+grows(n, values == nil) > api.MaxStack {
					why = api.Under
				}
				what := fmt.Sprintf("operation %d with %d on the stack and %d values", n, depth, len(values))
				ends(t, what, p, "k", values, 99, why, depth+1)
			}
		}
	}
}

func TestTheStackFullIsAllThere(t *testing.T) {
	p := fill(api.MaxStack)
	for range api.MaxStack {
		p = append(p, op(api.OpDrop))
	}
	runs(t, "as many as may be", p)
	fails(t, "one more to drop", append(p, op(api.OpDrop)), api.Under)
	fails(t, "one more to push", fill(api.MaxStack+1), api.Under)
	// What is taken off makes room for what is pushed.
	sums := fill(api.MaxStack)
	for range api.MaxStack - 1 {
		sums = append(sums, op(api.OpAdd))
	}
	leaves(t, "the sum of all", sums, "", nil, num(-api.MaxStack*(api.MaxStack+1)/2))
}

// edges are numbers at which sums and products go round, and others.
func edges() []int {
	return []int{0, 1, -1, 2, -2, 3, 7, -7, least, least + 1, greatest, greatest - 1, 1 << 31, 1 << 32, 1<<32 + 1, -1 << 32, 3037000500, 1 << 62, -1 << 62, 0x123456789abcdef}
}

// round answers what 64 bits leave of n.
func round(n *big.Int) int {
	whole := new(big.Int).Lsh(big.NewInt(1), 64)
	n = new(big.Int).Mod(n, whole)
	if n.Bit(63) == 1 {
		n.Sub(n, whole)
	}
	return int(n.Int64())
}

func TestNumbersGoRound(t *testing.T) {
	for _, a := range edges() {
		for _, b := range edges() {
			x, y := big.NewInt(int64(a)), big.NewInt(int64(b))
			what := fmt.Sprintf("%d and %d", a, b)
			leaves(t, "sum of "+what, []api.Ins{num(a), num(b), op(api.OpAdd)}, "", nil, num(round(new(big.Int).Add(x, y))))
			leaves(t, "difference of "+what, []api.Ins{num(a), num(b), op(api.OpSub)}, "", nil, num(round(new(big.Int).Sub(x, y))))
			leaves(t, "product of "+what, []api.Ins{num(a), num(b), op(api.OpMul)}, "", nil, num(round(new(big.Int).Mul(x, y))))
		}
	}
	leaves(t, "one more than the greatest", []api.Ins{num(greatest), num(1), op(api.OpAdd)}, "", nil, num(least))
	leaves(t, "one less than the least", []api.Ins{num(least), num(1), op(api.OpSub)}, "", nil, num(greatest))
	leaves(t, "the least by -1", []api.Ins{num(least), num(-1), op(api.OpMul)}, "", nil, num(least))
}

func yes(is bool) api.Ins {
	if is {
		return num(1)
	}
	return num(0)
}

func TestLessAndEqOfNumbers(t *testing.T) {
	for _, a := range edges() {
		for _, b := range edges() {
			what := fmt.Sprintf("%d and %d", a, b)
			order := big.NewInt(int64(a)).Cmp(big.NewInt(int64(b)))
			leaves(t, "OpLess of "+what, []api.Ins{num(a), num(b), op(api.OpLess)}, "", nil, yes(order < 0))
			shown(t, "OpEq of "+what, []api.Ins{num(a), num(b), op(api.OpEq)}, yes(order == 0).A)
		}
	}
}

// shown runs p and tells the number on top in digits, without OpEq.
func shown(t *testing.T, what string, p []api.Ins, want int) {
	t.Helper()
	p = join(p, ops(api.OpText), []api.Ins{store(7), str(""), load(7), op(api.OpEmit)})
	told, why := Run(p, "k", []string{"v"}, api.MaxFuel)
	if why != api.Fine || !slices.Equal(told, []api.Pair{{Value: strconv.Itoa(want)}}) {
		t.Errorf("P6.1: %s: %v, %d", what, told, why)
	}
}

func TestEqOfEachKind(t *testing.T) {
	values := []api.Ins{num(0), num(7), num(-7), str(""), str("0"), str("7"), str("-7"), str("a"), str("a\x00"), str("A"), str(long(api.MaxBytes))}
	for i, a := range values {
		for k, b := range values {
			shown(t, fmt.Sprintf("OpEq of %v and %v", a, b), []api.Ins{a, b, op(api.OpEq)}, yes(i == k).A)
		}
	}
	shown(t, "the key", []api.Ins{op(api.OpKey), str("k"), op(api.OpEq)}, 1)
	shown(t, "a register that nothing was stored in", []api.Ins{load(0), num(0), op(api.OpEq)}, 1)
	shown(t, "a register and no bytes", []api.Ins{load(0), str(""), op(api.OpEq)}, 0)
}

func TestCatAtMaxBytes(t *testing.T) {
	for _, n := range []int{0, 1, 31, 32, 33, api.MaxBytes} {
		for _, m := range []int{0, 1, 31, 32, 33, api.MaxBytes} {
			p := []api.Ins{str(long(n)), str(strings.Repeat("y", m)), op(api.OpCat)}
			if n+m > api.MaxBytes {
				fails(t, "bytes that are too many", p, api.Big)
				continue
			}
			leaves(t, "bytes that may be", p, "", nil, str(long(n)+strings.Repeat("y", m)))
		}
	}
}

func TestKeyAndNextAtMaxBytes(t *testing.T) {
	for _, n := range []int{0, 1, api.MaxKey, api.MaxKey + 1, api.MaxBytes - 1, api.MaxBytes} {
		leaves(t, "a key", ops(api.OpKey), long(n), nil, str(long(n)))
		leaves(t, "a value", ops(api.OpNext), "", []string{long(n)}, str(long(n)), num(1))
	}
	for _, n := range []int{api.MaxBytes + 1, 2 * api.MaxBytes, 1 << 20} {
		ends(t, "a key of too many", ops(api.OpKey), long(n), nil, 9, api.Big, 1)
		ends(t, "a value of too many", ops(api.OpNext), "", []string{long(n)}, 9, api.Big, 1)
		ends(t, "a second value of too many", ops(api.OpNext, api.OpNext), "", []string{"a", long(n)}, 9, api.Big, 2)
	}
}

func TestKeyAndValuesThatAreNeverAskedFor(t *testing.T) {
	far := long(1 << 20)
	leaves(t, "neither", []api.Ins{num(1)}, far, []string{far}, num(1))
	leaves(t, "a value behind", ops(api.OpNext), far, []string{"a", far}, str("a"), num(1))
	leaves(t, "the key alone", ops(api.OpKey), "k", []string{far}, str("k"))
}

func TestTextOfNumbers(t *testing.T) {
	for _, n := range append(edges(), 10, -10, 1000000) {
		leaves(t, "digits", []api.Ins{num(n), op(api.OpText)}, "", nil, str(strconv.Itoa(n)))
		leaves(t, "digits and back", []api.Ins{num(n), op(api.OpText), op(api.OpNum)}, "", nil, num(n))
	}
	// No number has more than 20 digits, so of a text one is never too many;
	// what digits are added to may be.
	fill := api.MaxBytes - len(strconv.Itoa(least))
	leaves(t, "digits behind bytes", []api.Ins{str(long(fill)), num(least), op(api.OpText), op(api.OpCat)}, "", nil, str(long(fill)+strconv.Itoa(least)))
	fails(t, "digits behind too many", []api.Ins{str(long(fill + 1)), num(least), op(api.OpText), op(api.OpCat)}, api.Big)
}

func TestNumOfWhatIsNoNumber(t *testing.T) {
	for _, s := range []string{"", "-", "+1", "01", "-0", "00", "1 ", " 1", "a", "1a", "0x1", "1.0", "1_0", "\x00", "9223372036854775808", "-9223372036854775809", strings.Repeat("1", api.MaxBytes)} {
		leaves(t, fmt.Sprintf("%q", s), []api.Ins{str(s), op(api.OpNum)}, "", nil, num(0))
	}
	for s, n := range map[string]int{"0": 0, "7": 7, "-7": -7, "10": 10, "9223372036854775807": greatest, "-9223372036854775808": least} {
		leaves(t, s, []api.Ins{str(s), op(api.OpNum)}, "", nil, num(n))
	}
}

func TestAtEachPlace(t *testing.T) {
	const s = "a\x00\xff"
	for i, want := range map[int]int{0: 97, 1: 0, 2: 255, 3: -1, 4: -1, -1: -1, -3: -1, least: -1, greatest: -1, 1 << 32: -1, -1 << 32: -1} {
		leaves(t, fmt.Sprintf("OpAt %d", i), []api.Ins{str(s), num(i), op(api.OpAt)}, "", nil, num(want))
	}
	leaves(t, "OpAt of none", []api.Ins{str(""), num(0), op(api.OpAt)}, "", nil, num(-1))
	leaves(t, "OpAt of the last of many", []api.Ins{str(long(63) + "y"), num(63), op(api.OpAt)}, "", nil, num('y'))
}

func TestCutAtEachPlace(t *testing.T) {
	for _, x := range []struct {
		from, to int
		want     string
	}{
		{0, 4, "abcd"}, {1, 3, "bc"}, {1, 9, "bcd"}, {-1, 2, "ab"}, {-9, 9, "abcd"}, {least, greatest, "abcd"}, {3, greatest, "d"},
		{0, 0, ""}, {2, 2, ""}, {3, 1, ""}, {4, 9, ""}, {5, 9, ""}, {-9, -1, ""}, {-3, 0, ""}, {greatest, least, ""}, {1 << 32, 1<<32 + 2, ""},
	} {
		what := fmt.Sprintf("OpCut %d, %d", x.from, x.to)
		leaves(t, what, []api.Ins{str("abcd"), num(x.from), num(x.to), op(api.OpCut)}, "", nil, str(x.want))
	}
	leaves(t, "OpCut of none", []api.Ins{str(""), num(-1), num(1), op(api.OpCut)}, "", nil, str(""))
}

func TestIf(t *testing.T) {
	for _, n := range edges() {
		want := []api.Ins{num(6), num(7)}
		if n != 0 {
			want = want[1:]
		}
		left(t, fmt.Sprintf("OpIf at %d", n), []api.Ins{num(n), jumpIf(3), num(6), num(7)}, want...)
	}
}

func TestWhereJumpsGo(t *testing.T) {
	left(t, "back", []api.Ins{jump(3), num(1), jump(5), num(2), jump(1)}, num(2), num(1))
	runs(t, "behind the last", []api.Ins{jump(1)})
	runs(t, "behind the last, if", []api.Ins{num(1), jumpIf(2)})
	ends(t, "over what would fail", []api.Ins{jump(2), op(api.OpDrop)}, "", nil, 9, api.Fine, 1)
	ends(t, "over what would fail, if", []api.Ins{num(3), jumpIf(3), op(api.OpDrop)}, "", nil, 9, api.Fine, 2)
	ends(t, "not over it", []api.Ins{num(0), jumpIf(3), op(api.OpDrop)}, "", nil, 9, api.Under, 3)
	ends(t, "to itself", []api.Ins{num(0), jump(1)}, "", nil, 9, api.Fuel, 9)
}

func TestRegisters(t *testing.T) {
	for a := range api.Registers {
		left(t, "nothing was stored", []api.Ins{load(a)}, num(0))
		left(t, "a number", []api.Ins{num(9), store(a), load(a), load(a)}, num(9), num(9))
		left(t, "bytes", []api.Ins{str("b"), store(a), load(a)}, str("b"))
		left(t, "the last that was stored", []api.Ins{str("b"), store(a), num(-3), store(a), load(a)}, num(-3))
	}
	var p, want []api.Ins
	for a := range api.Registers {
		p = append(p, num(10+a), store(a))
	}
	p = append(p, str("x"), store(3))
	for a := range api.Registers {
		p, want = append(p, load(a)), append(want, num(10+a))
	}
	want[3] = str("x")
	runs(t, "all loaded", p)
	stored := slices.Clip(p[:len(p)-api.Registers])
	for a := range api.Registers {
		// To hold all of them against something is too much for one program.
		leaves(t, "each its own", append(stored, load(a)), "", nil, want[a])
	}
}

func TestFuelAheadOfAllElse(t *testing.T) {
	for _, p := range [][]api.Ins{
		ops(api.OpHalt), ops(api.OpDrop), ops(api.OpKey, api.OpKey, api.OpAdd), {str(long(64)), str("x"), op(api.OpCat)},
		fill(api.MaxStack + 1), {jump(0)}, {num(1), jumpIf(0)}, {str(long(17)), str(""), op(api.OpEmit)},
	} {
		for fuel := range len(p) {
			ends(t, "too little fuel", p, "k", nil, fuel, api.Fuel, fuel)
		}
	}
}

func TestUnderAheadOfType(t *testing.T) {
	fails(t, "OpAdd of bytes alone", []api.Ins{str("a"), op(api.OpAdd)}, api.Under)
	fails(t, "OpCat of a number alone", []api.Ins{num(1), op(api.OpCat)}, api.Under)
	fails(t, "OpCut of two bytes", []api.Ins{str("a"), str("b"), op(api.OpCut)}, api.Under)
	fails(t, "OpEmit of a number alone", []api.Ins{num(1), op(api.OpEmit)}, api.Under)
}

func TestTypeAheadOfBig(t *testing.T) {
	whole := long(api.MaxBytes)
	fails(t, "OpCat with a number on top", []api.Ins{str(whole), num(1), op(api.OpCat)}, api.Type)
	fails(t, "OpCat with a number below", []api.Ins{num(1), str(whole), op(api.OpCat)}, api.Type)
	fails(t, "OpEmit of a long key and a number", []api.Ins{str(whole), num(1), op(api.OpEmit)}, api.Type)
	fails(t, "OpEmit of a number and bytes", []api.Ins{num(1), str("a"), op(api.OpEmit)}, api.Type)
}

func TestBigAheadOfTooManyOnTheStack(t *testing.T) {
	far := long(api.MaxBytes + 1)
	for depth := api.MaxStack - 2; depth <= api.MaxStack; depth++ {
		ends(t, "a key", append(fill(depth), op(api.OpKey)), far, nil, 99, api.Big, depth+1)
		ends(t, "a value", append(fill(depth), op(api.OpNext)), "", []string{far}, 99, api.Big, depth+1)
	}
}

// tellAll answers a program that tells count pairs by a loop and goes on
// behind it with then (which has no jumps), and how many steps the loop has.
func tellAll(count int, then ...api.Ins) ([]api.Ins, int) {
	loop := []api.Ins{
		op(api.OpKey), load(0), op(api.OpText), op(api.OpEmit),
		load(0), num(1), op(api.OpAdd), op(api.OpDup), store(0), num(count), op(api.OpLess), jumpIf(0),
	}
	return append(loop, then...), count * len(loop)
}

func TestAsManyPairsAsMayBe(t *testing.T) {
	p, steps := tellAll(api.MaxPairs)
	ends(t, "as many as may be", p, "k", nil, api.MaxFuel, api.Fine, steps)
	told, _ := Run(p, "k", nil, api.MaxFuel)
	if len(told) != api.MaxPairs {
		t.Fatalf("P6.1: %d pairs", len(told))
	}
	for i, pair := range told {
		if pair != (api.Pair{Key: "k", Value: strconv.Itoa(i)}) {
			t.Errorf("P6.1: pair %d: %v", i, pair)
		}
	}
	p, steps = tellAll(api.MaxPairs + 1)
	ends(t, "one more", p, "k", nil, api.MaxFuel, api.Many, steps-8)
}

func TestBigAheadOfMany(t *testing.T) {
	for _, x := range []struct {
		what  string
		count int
		then  []api.Ins
		why   int
	}{
		{"a key that may be", api.MaxPairs, []api.Ins{str(long(api.MaxKey)), str(""), op(api.OpEmit)}, api.Many},
		{"a key of too many", api.MaxPairs, []api.Ins{str(long(api.MaxKey + 1)), str(""), op(api.OpEmit)}, api.Big},
		{"a number", api.MaxPairs, []api.Ins{str(long(api.MaxKey + 1)), num(1), op(api.OpEmit)}, api.Type},
		{"too few", api.MaxPairs, []api.Ins{num(1), op(api.OpEmit)}, api.Under},
		{"one less, a key that may be", api.MaxPairs - 1, []api.Ins{str(long(api.MaxKey)), str(""), op(api.OpEmit)}, api.Fine},
		{"one less, a key of too many", api.MaxPairs - 1, []api.Ins{str(long(api.MaxKey + 1)), str(""), op(api.OpEmit)}, api.Big},
	} {
		p, steps := tellAll(x.count, x.then...)
		ends(t, x.what, p, "k", nil, api.MaxFuel, x.why, steps+len(x.then))
	}
}

func TestHowLongAPairMayBe(t *testing.T) {
	for key := range api.MaxBytes + 1 {
		for _, size := range []int{0, 1, api.MaxKey, api.MaxKey + 1, api.MaxBytes} {
			p := []api.Ins{str(long(key)), str(long(size)), op(api.OpEmit)}
			if key > api.MaxKey {
				fails(t, "a key of too many", p, api.Big)
				continue
			}
			told, why := Run(p, "", nil, 9)
			if why != api.Fine || !slices.Equal(told, []api.Pair{{Key: long(key), Value: long(size)}}) {
				t.Errorf("P6.1: a key of %d and a value of %d bytes: %v, %d", key, size, told, why)
			}
		}
	}
}

func TestTheEnds(t *testing.T) {
	for _, fuel := range []int{0, 1, api.MaxFuel, greatest} {
		ends(t, "no program", nil, "k", []string{"v"}, fuel, api.Fine, 0)
		ends(t, "no instructions", []api.Ins{}, "k", []string{"v"}, fuel, api.Fine, 0)
	}
	for _, fuel := range []int{-1, -2000, least} {
		ends(t, "no program", nil, "k", nil, fuel, api.Type, 0)
		ends(t, "fuel below 0", ops(api.OpHalt), "k", nil, fuel, api.Type, 0)
		ends(t, "neither may be", ops(99), "k", nil, fuel, api.Type, 0)
	}
	for _, p := range [][]api.Ins{
		ops(99), ops(-1), ops(api.OpHalt, api.OpEmit+1), {jump(2)}, {op(api.OpHalt), jumpIf(-1)}, {load(8)}, {op(api.OpHalt), store(-1)},
		{{Op: api.OpAdd, A: 1}}, {{Op: api.OpHalt, S: "x"}}, {str(long(65))}, {{Op: api.OpInt, S: "x"}}, make([]api.Ins, api.MaxIns+1),
	} {
		for _, fuel := range []int{0, 1, api.MaxFuel} {
			ends(t, "a program that may not be", p, "k", nil, fuel, api.Type, 0)
		}
	}
	ends(t, "OpHalt, no fuel", ops(api.OpHalt), "k", nil, 0, api.Fuel, 0)
	ends(t, "OpHalt", ops(api.OpHalt), "k", nil, 1, api.Fine, 1)
	ends(t, "behind the last, with no fuel left", []api.Ins{num(1), num(2)}, "k", nil, 2, api.Fine, 2)
	ends(t, "as many instructions as may be", nothings(api.MaxIns), "k", nil, 99, api.Fine, api.MaxIns)
}

// nothings answers n instructions, an even number, that leave nothing.
func nothings(n int) []api.Ins {
	var p []api.Ins
	for range n / 2 {
		p = append(p, op(api.OpKey), op(api.OpDrop))
	}
	return p
}

// counts answers a program of steps ahead of a loop of rounds of 8 steps.
func counts(ahead, rounds int) []api.Ins {
	var p []api.Ins
	for range ahead {
		p = append(p, num(5))
	}
	return append(p, load(0), num(1), op(api.OpAdd), op(api.OpDup), store(0), num(rounds), op(api.OpLess), jumpIf(ahead))
}

func TestFuelAboveMaxFuel(t *testing.T) {
	const rounds = api.MaxFuel / 8
	for _, fuel := range []int{api.MaxFuel, api.MaxFuel + 1, 1 << 40, greatest} {
		ends(t, "without end", []api.Ins{jump(0)}, "", nil, fuel, api.Fuel, api.MaxFuel)
		ends(t, "as many steps as may be", counts(0, rounds), "", nil, fuel, api.Fine, api.MaxFuel)
		ends(t, "one more", counts(1, rounds), "", nil, fuel, api.Fuel, api.MaxFuel)
	}
	ends(t, "one less fuel", counts(0, rounds), "", nil, api.MaxFuel-1, api.Fuel, api.MaxFuel-1)
}

func TestNothingIsToldBesideAReason(t *testing.T) {
	tell := []api.Ins{str("a"), str("b"), op(api.OpEmit)}
	for why, then := range map[int][]api.Ins{
		api.Under: {op(api.OpDrop)},
		api.Type:  {num(1), op(api.OpLen)},
		api.Fuel:  {jump(3)},
		api.Big:   {str(long(64)), op(api.OpDup), op(api.OpCat)},
	} {
		told, got := Run(join(tell, then), "k", nil, api.MaxFuel)
		if got != why || len(told) != 0 {
			t.Errorf("R2: %v, %d", told, got)
		}
	}
	p, _ := tellAll(api.MaxPairs + 1)
	if told, why := Run(p, "k", nil, api.MaxFuel); why != api.Many || len(told) != 0 {
		t.Errorf("R2: %v, %d", told, why)
	}
}

// echo tells the key with each of the values.
func echo() []api.Ins {
	return []api.Ins{op(api.OpNext), jumpIf(3), op(api.OpHalt), store(0), op(api.OpKey), load(0), op(api.OpEmit), jump(0)}
}

func TestValuesInTheirOrderEachOnce(t *testing.T) {
	for _, values := range [][]string{nil, {}, {""}, {"a"}, {"b", "a", "b", "", "\xff\x00"}, strings.Split(strings.Repeat("v,w,", 20), ",")[:api.MaxPairs]} {
		told, why := Run(echo(), "k", values, api.MaxFuel)
		var want []api.Pair
		for _, v := range values {
			want = append(want, api.Pair{Key: "k", Value: v})
		}
		if why != api.Fine || !slices.Equal(told, want) || Steps(echo(), "k", values, api.MaxFuel) != 7*len(values)+3 {
			t.Errorf("P6.1: %q: %v, %d", values, told, why)
		}
	}
	leaves(t, "no values at all", ops(api.OpNext, api.OpNext), "k", nil, num(0), num(0))
	leaves(t, "again and again behind the last", ops(api.OpNext, api.OpNext, api.OpNext), "k", []string{"a"}, str("a"), num(1), num(0), num(0))
}

func TestTheSpareRoomOfValuesIsNotAsked(t *testing.T) {
	values := []string{"a", "b", "c"}
	told, why := Run(echo(), "k", values[:2], 99)
	if why != api.Fine || len(told) != 2 {
		t.Errorf("P6.1: %v, %d", told, why)
	}
	p := []api.Ins{num(1), num(2), op(api.OpAdd)}
	ends(t, "the spare room of a program", p[:2], "k", nil, 9, api.Fine, 2)
}

func TestManyValues(t *testing.T) {
	values := make([]string, 1<<20)
	ends(t, "more values than may be told", echo(), "k", values, api.MaxFuel, api.Many, 7*api.MaxPairs+6)
	drop := []api.Ins{op(api.OpNext), op(api.OpDrop), op(api.OpDrop), jump(0)}
	ends(t, "values without end", drop, "k", values, api.MaxFuel, api.Fuel, api.MaxFuel)
}

func TestNothingIsChangedNorShared(t *testing.T) {
	room := append(echo(), api.Ins{Op: 77, A: 7, S: "room"})
	all := []string{"a", "b", "room"}
	p, values := room[:len(room)-1], all[:2]
	roomBefore, allBefore := slices.Clone(room), slices.Clone(all)
	want := []api.Pair{{Key: "k", Value: "a"}, {Key: "k", Value: "b"}}
	first, _ := Run(p, "k", values, 99)
	second, _ := Run(p, "k", values, 99)
	for i := range first[:cap(first)] {
		first[:cap(first)][i] = api.Pair{Key: "turned", Value: "turned"}
	}
	third, _ := Run(p, "k", values, 99)
	if !slices.Equal(second, want) || !slices.Equal(third, want) {
		t.Errorf("R4: another answer turned: %v, %v", second, third)
	}
	Steps(p, "k", values, 99)
	if !slices.Equal(room, roomBefore) || !slices.Equal(all, allBefore) {
		t.Errorf("R4: what was handed in turned: %v, %v", room, all)
	}
	values[0], p[4] = "turned", str("turned")
	if !slices.Equal(third, want) {
		t.Errorf("R4: an answer turned with what was handed in: %v", third)
	}
}

func TestSeveralAtOneTime(t *testing.T) {
	p, values := echo(), []string{"a", "b"}
	var all sync.WaitGroup
	for g := range 8 {
		key := strconv.Itoa(g)
		all.Go(func() {
			for range 200 {
				told, why := Run(p, key, values, 99)
				if why != api.Fine || len(told) != 2 || told[1] != (api.Pair{Key: key, Value: "b"}) || Steps(p, key, values, 99) != 17 {
					t.Errorf("R5: several goroutines at one time: %v, %d", told, why)
				}
			}
		})
	}
	all.Wait()
}
