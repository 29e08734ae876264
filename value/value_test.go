package value

import (
	"math"
	"math/rand"
	"strconv"
	"strings"
	"testing"

	"staithe/api"
)

const (
	greatest = math.MaxInt64
	least    = math.MinInt64
)

// numbers answers many numbers: the edges, all near 0, and about each power of 2 and of 10.
func numbers() []int64 {
	all := []int64{greatest, greatest - 1, least, least + 1}
	for n := int64(-1200); n <= 1200; n++ {
		all = append(all, n)
	}
	for shift := range 63 {
		p := int64(1) << shift
		all = append(all, p-1, p, p+1, -p-1, -p, -p+1)
	}
	for p := int64(1); p <= greatest/10; p *= 10 {
		all = append(all, 10*p-1, 10*p, 10*p+1, -10*p-1, -10*p, -10*p+1)
	}
	draw := rand.New(rand.NewSource(4))
	for range 2000 {
		all = append(all, int64(draw.Uint64())>>draw.Intn(64))
	}
	return all
}

func TestTheChaptersExample(t *testing.T) {
	if d, n, at, cut := Digits(-12), Number("007"), At("ab", 1), Cut("abcd", 1, 9); d != "-12" || n != 0 || at != 98 || cut != "bcd" {
		t.Errorf("P4.1: %q, %d, %d, %q", d, n, at, cut)
	}
}

func TestIntIsANumberAlone(t *testing.T) {
	for _, n := range numbers() {
		if v := Int(n); v != (api.Value{Text: false, Int: n, Bytes: ""}) {
			t.Fatalf("P4.1: Int(%d): %v", n, v)
		}
	}
}

func TestBytesAreBytesAlone(t *testing.T) {
	for _, s := range []string{"", "a", "12", "\x00", "a\x00b", "\xff\xfe", "line\nline", strings.Repeat("ab", 100000)} {
		if v := Bytes(s); v != (api.Value{Text: true, Int: 0, Bytes: s}) {
			t.Errorf("P4.1: Bytes of %d bytes: %v", len(s), v.Text)
		}
	}
}

func TestSame(t *testing.T) {
	for _, x := range []struct {
		what string
		a, b api.Value
		want bool
	}{
		{"one number twice", Int(7), Int(7), true},
		{"0 twice", Int(0), api.Value{}, true},
		{"two numbers", Int(7), Int(-7), false},
		{"0 and 1", Int(0), Int(1), false},
		{"the greatest and the least", Int(greatest), Int(least), false},
		{"numbers alike in their low half", Int(1), Int(1 + 1<<32), false},
		{"the greatest twice", Int(greatest), Int(greatest), true},
		{"no bytes twice", Bytes(""), Bytes(""), true},
		{"bytes twice", Bytes("ab"), Bytes("ab"), true},
		{"bytes and longer ones", Bytes("ab"), Bytes("abc"), false},
		{"bytes of one length", Bytes("ab"), Bytes("ac"), false},
		{"bytes in two cases", Bytes("a"), Bytes("A"), false},
		{"no bytes and a 0 byte", Bytes(""), Bytes("\x00"), false},
		{"bytes that are no runes", Bytes("\xff"), Bytes("\xfe"), false},
		{"0 and no bytes", Int(0), Bytes(""), false},
		{"a number and its digits", Int(12), Bytes("12"), false},
		{"numbers, their bytes unlike", api.Value{Int: 1, Bytes: "x"}, api.Value{Int: 1, Bytes: "y"}, true},
		{"two numbers, their bytes alike", api.Value{Int: 1, Bytes: "x"}, api.Value{Int: 2, Bytes: "x"}, false},
		{"bytes, their numbers unlike", api.Value{Text: true, Int: 1, Bytes: "x"}, api.Value{Text: true, Int: 2, Bytes: "x"}, true},
		{"other bytes, their numbers alike", api.Value{Text: true, Int: 1, Bytes: "x"}, api.Value{Text: true, Int: 1, Bytes: "y"}, false},
		{"one of each, all else alike", api.Value{Int: 1, Bytes: "x"}, api.Value{Text: true, Int: 1, Bytes: "x"}, false},
	} {
		if Same(x.a, x.b) != x.want || Same(x.b, x.a) != x.want {
			t.Errorf("P4.1: Same of %s: %v, turned round %v", x.what, Same(x.a, x.b), Same(x.b, x.a))
		}
	}
}

func TestDigits(t *testing.T) {
	for _, x := range []struct {
		n    int64
		want string
	}{
		{0, "0"}, {1, "1"}, {-1, "-1"}, {9, "9"}, {10, "10"}, {-10, "-10"}, {99, "99"}, {100, "100"}, {-12, "-12"}, {120034, "120034"},
		{greatest, "9223372036854775807"}, {greatest - 1, "9223372036854775806"},
		{least, "-9223372036854775808"}, {least + 1, "-9223372036854775807"},
	} {
		if got := Digits(x.n); got != x.want {
			t.Errorf("P4.1: Digits(%d): %q", x.n, got)
		}
		if got := Number(x.want); got != x.n {
			t.Errorf("P4.1: Number(%q): %d", x.want, got)
		}
	}
}

func TestDigitsHaveTheirForm(t *testing.T) {
	for _, n := range numbers() {
		digits := Digits(n)
		bare, below := strings.CutPrefix(digits, "-")
		if below != (n < 0) || bare == "" || len(digits) > mostDigits {
			t.Fatalf("P4.1: Digits(%d): %q", n, digits)
		}
		if strings.Trim(bare, "0123456789") != "" || bare[0] == '0' && digits != "0" {
			t.Fatalf("P4.1: Digits(%d): %q", n, digits)
		}
	}
}

func TestNumberOfWhatIsNoNumbersDigits(t *testing.T) {
	texts := []string{
		"", "-", "+", "--", "- 1", "-0", "+0", "00", "-00", "000", "01", "-01", "007", "0000000000000000001",
		"+1", "+12", "--1", "-+1", "+-1", "1-", "1+", "1-2",
		" 1", "1 ", "1 2", "\t1", "1\n", "\n1", " ", "1\x00", "\x001", "\x00",
		"x", "1x", "x1", "1a2", "0x1", "0b1", "0o7", "0x", "1e3", "1E3", "1.0", "1.", ".1", "1,000", "1_0", "_1", "1_",
		"\xff", "1\xff", "\u0661", "\uff11", "1\u00a0", "Inf", "NaN", "true", "ten",
		"9223372036854775808", "9223372036854775810", "9300000000000000000", "9999999999999999999",
		"-9223372036854775809", "-9223372036854775810", "-9999999999999999999",
		"10000000000000000000", "18446744073709551615", "18446744073709551616", "18446744073709551617", "-18446744073709551615",
		"100000000000000000000", "340282366920938463463374607431768211457",
	}
	for _, s := range texts {
		if got := Number(s); got != 0 {
			t.Errorf("P4.1: Number(%q): %d", s, got)
		}
	}
}

func TestNumberOfDigitsWithSomethingBeside(t *testing.T) {
	for _, n := range numbers() {
		digits := Digits(n)
		bare := strings.TrimPrefix(digits, "-")
		for _, s := range []string{"0" + digits, "-0" + bare, "+" + digits, " " + digits, digits + " ", digits + "x", digits + "-", "--" + bare} {
			if got := Number(s); got != 0 {
				t.Fatalf("P4.1: Number(%q): %d", s, got)
			}
		}
	}
}

func TestNumberOfLongTexts(t *testing.T) {
	for _, size := range []int{19, 20, 21, 22, 40, 64, 1000, 1 << 20} {
		for _, s := range []string{
			strings.Repeat("9", size), "-" + strings.Repeat("9", size), strings.Repeat("0", size),
			strings.Repeat("0", size) + "1", "-" + strings.Repeat("0", size) + "1",
			strings.Repeat("-", size), strings.Repeat(" ", size) + "1", "1" + strings.Repeat(" ", size), strings.Repeat("a", size),
		} {
			if got := Number(s); got != 0 {
				t.Errorf("P4.1: Number of a text of %d bytes: %d", len(s), got)
			}
		}
	}
}

// TestNumberOfShortTexts asks each text of up to three signs, digits and
// letters, and holds the answer against what Digits would have told.
func TestNumberOfShortTexts(t *testing.T) {
	want := map[string]int64{}
	for n := int64(-999); n <= 999; n++ {
		want[strconv.FormatInt(n, 10)] = n
	}
	texts := []string{""}
	for from := 0; from < len(texts); from++ {
		if len(texts[from]) == 3 {
			break
		}
		for _, c := range "0123456789-+ _x." {
			texts = append(texts, texts[from]+string(c))
		}
	}
	for _, s := range texts {
		if got := Number(s); got != want[s] {
			t.Errorf("P4.1: Number(%q): %d", s, got)
		}
	}
}

func TestAt(t *testing.T) {
	for _, x := range []struct {
		s    string
		i    int64
		want int64
	}{
		{"ab", 0, 97}, {"ab", 1, 98}, {"ab", 2, -1}, {"ab", 3, -1}, {"ab", -1, -1}, {"ab", -2, -1},
		{"ab", greatest, -1}, {"ab", least, -1}, {"ab", 1 << 32, -1}, {"ab", 1<<32 + 1, -1}, {"ab", -1 << 32, -1},
		{"", 0, -1}, {"", -1, -1}, {"", 1, -1},
		{"\x00", 0, 0}, {"\x7f\x80\xff", 0, 127}, {"\x7f\x80\xff", 1, 128}, {"\x7f\x80\xff", 2, 255},
		{"\u00e9", 0, 0xc3}, {"\u00e9", 1, 0xa9}, {"\u00e9", 2, -1},
	} {
		if got := At(x.s, x.i); got != x.want {
			t.Errorf("P4.1: At(%q, %d): %d", x.s, x.i, got)
		}
	}
}

func TestAtOfEachByte(t *testing.T) {
	all := make([]byte, 256)
	for i := range all {
		all[i] = byte(255 - i)
	}
	for i := range int64(256) {
		if got := At(string(all), i); got != 255-i {
			t.Errorf("P4.1: At %d: %d", i, got)
		}
	}
}

func TestCut(t *testing.T) {
	for _, x := range []struct {
		from, to int64
		want     string
	}{
		{0, 4, "abcd"}, {1, 3, "bc"}, {0, 1, "a"}, {3, 4, "d"}, {1, 9, "bcd"}, {0, 5, "abcd"}, {3, greatest, "d"},
		{-1, 2, "ab"}, {-9, 9, "abcd"}, {least, 1, "a"}, {least, greatest, "abcd"},
		{0, 0, ""}, {2, 2, ""}, {4, 4, ""}, {-1, -1, ""}, {9, 9, ""}, {greatest, greatest, ""}, {least, least, ""},
		{3, 1, ""}, {1, 0, ""}, {4, 0, ""}, {9, -9, ""}, {9, 2, ""}, {2, -1, ""}, {greatest, least, ""},
		{4, 9, ""}, {5, 9, ""}, {-9, -1, ""}, {-3, 0, ""}, {least, 0, ""}, {least, -1, ""}, {4, greatest, ""}, {greatest - 1, greatest, ""},
		{1 << 32, 1<<32 + 2, ""}, {1, 1<<32 + 2, "bcd"},
	} {
		if got := Cut("abcd", x.from, x.to); got != x.want {
			t.Errorf("P4.1: Cut(%d, %d): %q", x.from, x.to, got)
		}
	}
}

func TestCutOfNoBytes(t *testing.T) {
	for _, from := range []int64{least, -1, 0, 1, greatest} {
		for _, to := range []int64{least, -1, 0, 1, greatest} {
			if got := Cut("", from, to); got != "" {
				t.Errorf("P4.1: Cut of none (%d, %d): %q", from, to, got)
			}
		}
	}
}

func TestCutIsByBytes(t *testing.T) {
	if got := Cut("\u00e9\xff\x00z", 1, 4); got != "\xa9\xff\x00" {
		t.Errorf("P4.1: %q", got)
	}
}

// TestCutHoldsWhatAtTells gathers each cut byte by byte.
func TestCutHoldsWhatAtTells(t *testing.T) {
	const s = "a\x80\xffd\x00"
	for from := int64(-3); from <= 8; from++ {
		for to := int64(-3); to <= 8; to++ {
			want := []byte{}
			for i := from; i < to; i++ {
				if b := At(s, i); b >= 0 {
					want = append(want, byte(b))
				}
			}
			if got := Cut(s, from, to); got != string(want) {
				t.Errorf("P4.1: Cut(%d, %d): %q", from, to, got)
			}
		}
	}
}

func TestNumberOfDigitsIsTheNumber(t *testing.T) {
	for _, n := range numbers() {
		if got := Number(Digits(n)); got != n {
			t.Errorf("P4.2: Number(Digits(%d)): %d", n, got)
		}
	}
}
