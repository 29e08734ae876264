package code

import (
	"bytes"
	"math"
	"strings"
	"sync"
	"testing"
)

func everyByte() string {
	all := make([]byte, 256)
	for i := range all {
		all[i] = byte(i)
	}
	return string(all)
}

func someBytes() [][]byte {
	return [][]byte{nil, {}, {0}, {255}, {9, 0, 7}, []byte(everyByte())}
}

func someNumbers() []int {
	numbers := []int{0, 1, 2, 127, 128, 255, 256, 258, 1 << 40, math.MaxInt, math.MaxInt - 1}
	numbers = append(numbers, -1, -2, -128, -129, -256, -257, -(1 << 40), math.MinInt, math.MinInt+1)
	for shift := range 63 {
		numbers = append(numbers, 1<<shift, -1<<shift, 0x5a<<shift)
	}
	return numbers
}

func someTexts() []string {
	return []string{"", "a", "ab", "\x00", "\xff", "\x00\xff\x80", "a\nb", "\xe2\x82", everyByte(), strings.Repeat("x", 70000)}
}

// wantNum lays a number by division instead of shifts.
func wantNum(n int) []byte {
	laid := make([]byte, 8)
	bits := uint64(n)
	for i := 7; i >= 0; i-- {
		laid[i] = byte(bits % 256)
		bits /= 256
	}
	return laid
}

func TestNumLaysEightBytesHighestFirst(t *testing.T) {
	for _, x := range []struct {
		n    int
		want string
	}{
		{0, "\x00\x00\x00\x00\x00\x00\x00\x00"},
		{1, "\x00\x00\x00\x00\x00\x00\x00\x01"},
		{258, "\x00\x00\x00\x00\x00\x00\x01\x02"},
		{0x0102030405060708, "\x01\x02\x03\x04\x05\x06\x07\x08"},
		{-1, "\xff\xff\xff\xff\xff\xff\xff\xff"},
		{-2, "\xff\xff\xff\xff\xff\xff\xff\xfe"},
		{math.MaxInt, "\x7f\xff\xff\xff\xff\xff\xff\xff"},
		{math.MinInt, "\x80\x00\x00\x00\x00\x00\x00\x00"},
	} {
		if got := Num(nil, x.n); string(got) != x.want {
			t.Errorf("P1.1: Num(none, %d): %v", x.n, got)
		}
	}
}

func TestNumStandsBehindTheBytes(t *testing.T) {
	for _, b := range someBytes() {
		for _, n := range someNumbers() {
			want := string(b) + string(wantNum(n))
			if got := Num(b, n); string(got) != want {
				t.Errorf("P1.1: Num(%v, %d): %v", b, n, got)
			}
		}
	}
}

func TestTextLaysItsLengthAndItsBytes(t *testing.T) {
	if got := Text(nil, "ab"); string(got) != "\x00\x00\x00\x00\x00\x00\x00\x02ab" {
		t.Errorf("P1.1: Text(none, ab): %v", got)
	}
	if got := Text(nil, ""); string(got) != "\x00\x00\x00\x00\x00\x00\x00\x00" {
		t.Errorf("P1.1: Text(none, empty): %v", got)
	}
	for _, b := range someBytes() {
		for _, s := range someTexts() {
			want := string(b) + string(wantNum(len(s))) + s
			if got := Text(b, s); string(got) != want {
				t.Errorf("P1.1: Text(%v, a text of %d bytes): %d bytes", b, len(s), len(got))
			}
		}
	}
}

func TestReadNumAtEveryPlace(t *testing.T) {
	b := []byte("\x01\x02\x03\x04\x05\x06\x07\x08\x09\x80\xff\x00\x7f")
	for size := 0; size <= len(b); size++ {
		for at := -3; at <= len(b)+10; at++ {
			n, behind, ok := ReadNum(b[:size], at)
			if at < 0 || at+8 > size {
				if n != 0 || behind != 0 || ok {
					t.Errorf("P1.1: %d bytes at %d: %d, %d, %t", size, at, n, behind, ok)
				}
				continue
			}
			if behind != at+8 || !ok || !bytes.Equal(wantNum(n), b[at:at+8]) {
				t.Errorf("P1.1: %d bytes at %d: %d, %d, %t", size, at, n, behind, ok)
			}
		}
	}
}

func TestReadNumPassesOverSpareRoom(t *testing.T) {
	b := Num(nil, 5)
	if n, behind, ok := ReadNum(b[:7], 0); n != 0 || behind != 0 || ok {
		t.Errorf("P1.1: bytes behind the end were read: %d, %d, %t", n, behind, ok)
	}
	if s, behind, ok := ReadText(Text(nil, "abc")[:10], 0); s != "" || behind != 0 || ok {
		t.Errorf("P1.1: bytes behind the end were read: %q, %d, %t", s, behind, ok)
	}
}

func TestReadFarFromTheBytes(t *testing.T) {
	far := []int{-1, -8, -9, math.MinInt, math.MinInt + 8, math.MaxInt, math.MaxInt - 7, math.MaxInt - 8, 1 << 62}
	for _, b := range [][]byte{nil, {}, {1}, Num(nil, 3), Text(nil, "abc"), make([]byte, 40)} {
		for _, at := range append(far, len(b), len(b)+1) {
			if n, behind, ok := ReadNum(b, at); n != 0 || behind != 0 || ok {
				t.Errorf("P1.1: ReadNum of %v at %d: %d, %d, %t", b, at, n, behind, ok)
			}
			if s, behind, ok := ReadText(b, at); s != "" || behind != 0 || ok {
				t.Errorf("P1.1: ReadText of %v at %d: %q, %d, %t", b, at, s, behind, ok)
			}
		}
	}
}

// wantText reads a text by cutting the bytes away from the front.
func wantText(b []byte, at int) (string, int, bool) {
	if at < 0 || at > len(b) || len(b[at:]) < 8 {
		return "", 0, false
	}
	size, rest := uint64(0), b[at:]
	for i := range 8 {
		size = size*256 + uint64(rest[i])
	}
	if rest = rest[8:]; size > uint64(len(rest)) {
		return "", 0, false
	}
	return string(rest[:size]), at + 8 + int(size), true
}

func TestReadTextAtEveryPlace(t *testing.T) {
	whole := Text(Num(Text([]byte{7}, "ab"), 0), "\x00\xffz")
	read := 0
	for size := 0; size <= len(whole); size++ {
		for at := -3; at <= len(whole)+10; at++ {
			s, behind, ok := ReadText(whole[:size], at)
			wantS, wantBehind, wantOK := wantText(whole[:size], at)
			if s != wantS || behind != wantBehind || ok != wantOK {
				t.Errorf("P1.1: %d bytes at %d: %q, %d, %t", size, at, s, behind, ok)
			}
			if ok {
				read++
			}
		}
	}
	if read == 0 {
		t.Error("P1.1: nothing was read")
	}
}

func TestReadTextOfEveryLength(t *testing.T) {
	lengths := append(someNumbers(), 3, 4, 5, 6)
	for _, length := range lengths {
		b := append(Num([]byte{1, 2}, length), "abcd"...)
		s, behind, ok := ReadText(b, 2)
		if length < 0 || length > 4 {
			if s != "" || behind != 0 || ok {
				t.Errorf("P1.1: a length of %d: %q, %d, %t", length, s, behind, ok)
			}
			continue
		}
		if s != "abcd"[:length] || behind != 10+length || !ok {
			t.Errorf("P1.1: a length of %d: %q, %d, %t", length, s, behind, ok)
		}
	}
}

func TestThereAndBack(t *testing.T) {
	var b []byte
	for i, n := range someNumbers() {
		b = Text(Num(b, n), someTexts()[i%len(someTexts())])
	}
	at := 0
	for i, want := range someNumbers() {
		n, behind, ok := ReadNum(b, at)
		if n != want || behind != at+8 || !ok {
			t.Fatalf("P1.2: number %d at %d: %d, %d, %t", want, at, n, behind, ok)
		}
		text := someTexts()[i%len(someTexts())]
		s, end, ok := ReadText(b, behind)
		if s != text || end != behind+8+len(text) || !ok {
			t.Fatalf("P1.2: text %d at %d: %d bytes, %d, %t", i, behind, len(s), end, ok)
		}
		at = end
	}
	if at != len(b) {
		t.Errorf("P1.2: %d of %d bytes were read", at, len(b))
	}
}

func TestWhatIsReadLaysTheSameBytes(t *testing.T) {
	b := []byte("\x00\x00\x00\x00\x00\x00\x00\x02ab\xff\x80\x00\x00\x00\x00\x00\x01")
	s, at, _ := ReadText(b, 0)
	n, at, ok := ReadNum(b, at)
	if got := Num(Text(nil, s), n); !ok || at != len(b) || !bytes.Equal(got, b) {
		t.Errorf("P1.2: %q, %d: %v", s, n, got)
	}
}

func TestBytesAndSpareRoomStay(t *testing.T) {
	room := []byte(strings.Repeat("r", 64))
	for size := range 40 {
		Num(room[:size], -1)
		Text(room[:size], "abc")
		Text(room[:size], "")
		ReadNum(room[:size], 0)
		ReadText(room[:size], 0)
		if string(room) != strings.Repeat("r", 64) {
			t.Fatalf("R4: behind calls of %d bytes: %q", size, room)
		}
	}
}

func TestAnswersShareNoMemory(t *testing.T) {
	given := append(make([]byte, 0, 64), 1, 2)
	num, text := Num(given, 5), Text(given, "ab")
	again, numBack, textBack := Num(num, 6), string(num), string(text)
	given[0], given[1] = 8, 9
	copy(given[:64], strings.Repeat("x", 64))
	if string(num) != numBack || string(text) != textBack {
		t.Errorf("R4: answers share an argument's memory: %v, %v", num, text)
	}
	num[0] = 77
	if again[0] != 1 {
		t.Errorf("R4: two answers share memory: %v", again)
	}
	s, _, _ := ReadText(text, 2)
	copy(text, strings.Repeat("x", len(text)))
	if s != "ab" {
		t.Errorf("R4: a text that was read shares its bytes: %q", s)
	}
}

func TestBranchesFromOneBeginning(t *testing.T) {
	begin := Num(nil, 1)
	left, right := Text(begin, "left"), Text(begin, "rite")
	if s, _, _ := ReadText(left, 8); s != "left" {
		t.Errorf("R4: the first of two branches: %q", s)
	}
	if s, _, _ := ReadText(right, 8); s != "rite" {
		t.Errorf("R4: the second of two branches: %q", s)
	}
}

func TestFromSeveralGoroutines(t *testing.T) {
	shared := append(make([]byte, 0, 64), Text(nil, "ab")...)
	var all sync.WaitGroup
	for n := range 8 {
		all.Add(1)
		go func() {
			defer all.Done()
			b := Text(Num(shared, n), "c")
			s, at, _ := ReadText(shared, 0)
			if got, _, ok := ReadNum(b, at); s != "ab" || got != n || !ok {
				t.Errorf("R5: %d: %q, %d, %t", n, s, got, ok)
			}
		}()
	}
	all.Wait()
}
