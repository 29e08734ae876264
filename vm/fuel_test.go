package vm

import (
	"fmt"
	"math/big"
	"math/rand"
	"slices"
	"strconv"
	"testing"

	"staithe/api"
)

// plain runs programs as the chapter's words go, in another way than the
// program: values are int64 or string, and reasons are thrown.
type plain struct {
	p         []api.Ins
	key       string
	values    []string
	fuel      int
	stack     []any
	registers [api.Registers]any
	place     int
	told      []api.Pair
	done      int
}

func plainRun(p []api.Ins, key string, values []string, fuel int) (told []api.Pair, why, done int) {
	x := plain{p: p, key: key, values: values, fuel: min(fuel, api.MaxFuel)}
	for i := range x.registers {
		x.registers[i] = int64(0)
	}
	defer func() {
		if thrown := recover(); thrown != nil {
			told, why, done = nil, thrown.(int), x.done
		}
	}()
	for x.place != len(p) {
		x.step()
	}
	return x.told, api.Fine, x.done
}

func (x *plain) step() {
	if x.done == x.fuel {
		panic(api.Fuel)
	}
	x.done++
	ins := x.p[x.place]
	x.place++
	needed := needs[ins.Op]
	if len(needed) > len(x.stack) {
		panic(api.Under)
	}
	top := slices.Clone(x.stack[len(x.stack)-len(needed):])
	for i, v := range top {
		if _, bytes := v.(string); needed[i] != 'e' && bytes != (needed[i] == 'b') {
			panic(api.Type)
		}
	}
	x.stack = append(x.stack[:len(x.stack)-len(needed)], x.make(ins, top)...)
	if len(x.stack) > api.MaxStack {
		panic(api.Under)
	}
}

// make answers what is pushed.
func (x *plain) make(ins api.Ins, top []any) []any {
	pushed := x.unasked(ins, top)
	for _, v := range pushed {
		if s, bytes := v.(string); bytes && len(s) > api.MaxBytes {
			panic(api.Big)
		}
	}
	return pushed
}

func (x *plain) unasked(ins api.Ins, top []any) []any {
	switch ins.Op {
	case api.OpHalt:
		x.place = len(x.p)
	case api.OpInt:
		return []any{int64(ins.A)}
	case api.OpBytes:
		return []any{ins.S}
	case api.OpDup:
		return []any{top[0], top[0]}
	case api.OpSwap:
		return []any{top[1], top[0]}
	case api.OpKey:
		return []any{x.key}
	case api.OpNext:
		if len(x.values) == 0 {
			return []any{int64(0)}
		}
		first := x.values[0]
		x.values = x.values[1:]
		return []any{first, int64(1)}
	case api.OpJump:
		x.place = ins.A
	case api.OpIf:
		if top[0] != int64(0) {
			x.place = ins.A
		}
	case api.OpLoad:
		return []any{x.registers[ins.A]}
	case api.OpStore:
		x.registers[ins.A] = top[0]
	case api.OpEmit:
		x.tell(top[0].(string), top[1].(string))
	case api.OpDrop:
	default:
		return []any{plainTurn(ins.Op, top)}
	}
	return nil
}

func (x *plain) tell(key, value string) {
	if len(key) > api.MaxKey {
		panic(api.Big)
	}
	if len(x.told) == api.MaxPairs {
		panic(api.Many)
	}
	x.told = append(x.told, api.Pair{Key: key, Value: value})
}

func plainTurn(op int, top []any) any {
	if op == api.OpEq {
		return int64(yes(top[0] == top[1]).A)
	}
	if a, is := top[0].(int64); is {
		if op == api.OpText {
			return fmt.Sprint(a)
		}
		return plainNumbers(op, a, top[1].(int64))
	}
	s := top[0].(string)
	switch op {
	case api.OpCat:
		return s + top[1].(string)
	case api.OpLen:
		return int64(len(s))
	case api.OpNum:
		n, _ := strconv.ParseInt(s, 10, 64)
		if fmt.Sprint(n) != s {
			n = 0
		}
		return n
	}
	from, to := top[1].(int64), top[len(top)-1].(int64)
	cut := []byte{}
	for i := range s {
		if op == api.OpAt && int64(i) == from {
			return int64(s[i])
		}
		if int64(i) >= from && int64(i) < to {
			cut = append(cut, s[i])
		}
	}
	if op == api.OpAt {
		return int64(-1)
	}
	return string(cut)
}

func plainNumbers(op int, a, b int64) any {
	x, y := big.NewInt(a), big.NewInt(b)
	switch op {
	case api.OpAdd:
		return int64(round(x.Add(x, y)))
	case api.OpSub:
		return int64(round(x.Sub(x, y)))
	case api.OpMul:
		return int64(round(x.Mul(x, y)))
	}
	return int64(yes(x.Cmp(y) < 0).A)
}

// drawn draws a program that may be; most of what it needs is there, for
// what would be on the stack, if it were run straight on, is kept in mind.
func drawn(draw *rand.Rand) []api.Ins {
	size := draw.Intn(api.MaxIns + 1)
	var p []api.Ins
	kinds := ""
	for len(p) < size {
		ins, ok := drawnIns(draw, size, kinds)
		if !ok && draw.Intn(60) > 0 {
			continue
		}
		kinds = kindsBehind(ins, kinds)
		p = append(p, ins)
	}
	return p
}

// drawnIns draws one instruction, and tells whether these kinds are enough.
func drawnIns(draw *rand.Rand, size int, kinds string) (api.Ins, bool) {
	// OpEmit more often than others, since two bytes are seldom on top.
	ins := api.Ins{Op: min(draw.Intn(api.OpEmit+5), api.OpEmit)}
	switch ins.Op {
	case api.OpHalt:
		return ins, draw.Intn(20) == 0
	case api.OpInt:
		ins.A = []int{0, 1, -1, draw.Intn(70), least, greatest, int(draw.Uint64())}[draw.Intn(7)]
	case api.OpBytes:
		ins.S = []string{"", "a", "12", "-7", "07", long(draw.Intn(18)), long(draw.Intn(65))}[draw.Intn(7)]
	case api.OpJump, api.OpIf:
		ins.A = draw.Intn(size + 1)
	case api.OpLoad, api.OpStore:
		ins.A = draw.Intn(api.Registers)
	}
	needed := needs[ins.Op]
	if len(needed) > len(kinds) {
		return ins, false
	}
	for i, k := range []byte(kinds[len(kinds)-len(needed):]) {
		if needed[i] != 'e' && needed[i] != k {
			return ins, false
		}
	}
	return ins, len(kinds)+grows(ins.Op, false) <= api.MaxStack
}

func kindsBehind(ins api.Ins, kinds string) string {
	taken := kinds[max(0, len(kinds)-len(needs[ins.Op])):]
	kinds = kinds[:len(kinds)-len(taken)]
	switch ins.Op {
	case api.OpInt, api.OpAdd, api.OpSub, api.OpMul, api.OpLess, api.OpEq, api.OpLen, api.OpAt, api.OpNum, api.OpLoad:
		return kinds + "n"
	case api.OpBytes, api.OpKey, api.OpCat, api.OpCut, api.OpText:
		return kinds + "b"
	case api.OpNext:
		return kinds + "bn"
	case api.OpDup:
		return kinds + taken + taken
	case api.OpSwap:
		if len(taken) == 2 {
			return kinds + taken[1:] + taken[:1]
		}
	}
	return kinds
}

func drawnTexts(draw *rand.Rand) (string, []string) {
	all := []string{"k", "", "12", long(api.MaxKey), long(api.MaxKey + 1), long(api.MaxBytes), long(api.MaxBytes + 1)}
	// Short ones more often, for long ones end most runs soon.
	one := func() string { return all[min(draw.Intn(len(all)), draw.Intn(len(all)))] }
	key, values := one(), []string(nil)
	for range draw.Intn(5) {
		values = append(values, one())
	}
	return key, values
}

func TestAsTheWordsGo(t *testing.T) {
	draw := rand.New(rand.NewSource(6))
	var reasons [api.BadKey + 1]int
	tellers := 0
	for range 30000 {
		p := drawn(draw)
		key, values := drawnTexts(draw)
		fuel := []int{api.MaxFuel, 300, draw.Intn(60)}[draw.Intn(3)]
		told, why, done := plainRun(p, key, values, fuel)
		got, gotWhy := Run(p, key, values, fuel)
		if !slices.Equal(got, told) || gotWhy != why {
			t.Fatalf("P6.1: %v, key %q, values %q, fuel %d: %v, %d and not %v, %d", p, key, values, fuel, got, gotWhy, told, why)
		}
		if got := Steps(p, key, values, fuel); got != done {
			t.Fatalf("P6.2: %v, key %q, values %q, fuel %d: %d and not %d", p, key, values, fuel, got, done)
		}
		reasons[why]++
		tellers += min(1, len(told))
	}
	if slices.Min(reasons[:api.BadKey]) < 20 || tellers < 500 {
		t.Errorf("what was drawn is too much alike: reasons %v, %d tell something", reasons, tellers)
	}
}

// sameOrFuel asks p with each fuel from 0 to a little more than its steps.
func sameOrFuel(t *testing.T, p []api.Ins, key string, values []string) {
	t.Helper()
	told, why := Run(p, key, values, api.MaxFuel)
	steps := Steps(p, key, values, api.MaxFuel)
	for fuel := 0; fuel <= steps+5; fuel++ {
		got, gotWhy := Run(p, key, values, fuel)
		done := Steps(p, key, values, fuel)
		if fuel >= steps && (!slices.Equal(got, told) || gotWhy != why || done != steps) {
			t.Fatalf("P6.3: %v: fuel %d of %d steps: %v, %d, %d steps, not %v, %d", p, fuel, steps, got, gotWhy, done, told, why)
		}
		if fuel < steps && (len(got) != 0 || gotWhy != api.Fuel || done != fuel) {
			t.Fatalf("P6.3: %v: fuel %d of %d steps: %v, %d, %d steps, not Fuel", p, fuel, steps, got, gotWhy, done)
		}
	}
}

func TestLessFuelTellsTheSameOrFuel(t *testing.T) {
	whole, _ := tellAll(api.MaxPairs)
	many, _ := tellAll(api.MaxPairs + 1)
	for _, p := range [][]api.Ins{
		nil, ops(api.OpHalt), ops(api.OpDrop), echo(), whole, many, fill(api.MaxStack + 1), nothings(api.MaxIns),
		counts(0, 20), {jump(1)}, {jump(0)}, {num(1), op(api.OpLen)}, {str(long(64)), op(api.OpDup), op(api.OpCat)},
	} {
		sameOrFuel(t, p, "k", []string{"a", "b", "c"})
	}
	sameOrFuel(t, echo(), long(api.MaxKey+1), []string{"a"})
	sameOrFuel(t, echo(), "k", []string{"a", long(api.MaxBytes + 1)})
	draw := rand.New(rand.NewSource(63))
	for range 1000 {
		p := drawn(draw)
		key, values := drawnTexts(draw)
		if Steps(p, key, values, 200) < 200 {
			sameOrFuel(t, p, key, values)
		}
	}
}
