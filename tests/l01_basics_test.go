package tests

import (
	"math"
	"math/rand"
	"regexp"
	"slices"
	"strconv"
	"strings"
	"testing"

	"loop.example/g01055/impl"
)

func TestCodes(t *testing.T) {
	codes := []int64{
		impl.OK, impl.ErrInvalid, impl.ErrRange, impl.ErrNotFound, impl.ErrExists, impl.ErrFull,
		impl.ErrState, impl.ErrSyntax, impl.ErrFormat, impl.ErrClash, impl.ErrGap,
	}
	names := []string{
		"ok", "invalid", "range", "not-found", "exists", "full", "state", "syntax", "format", "clash", "gap",
	}
	for i, name := range names {
		same(t, "value of "+name, codes[i], int64(i))
		same(t, "name of a code", impl.CodeName(int64(i)), name)
	}
	for _, n := range []int64{-1, 11, 12, 256, 1 << 32, -1 << 32, math.MinInt64, math.MaxInt64} {
		same(t, "name of "+strconv.FormatInt(n, 10), impl.CodeName(n), "")
	}
}

func TestIsName(t *testing.T) {
	same(t, "MaxName", impl.MaxName, 12)
	for _, s := range []string{
		"gore-3", "a", "z", "abcdefghijkl", "a0", "a9", "z-", "a--", "a-1-b-2-c-3-", "mnopqrstuvwx", "yz0123456789",
	} {
		same(t, "IsName "+quoted(s), impl.IsName(s), true)
	}
	for _, s := range []string{
		"", "abcdefghijklm", "3gore", "-gore", "-", "0", "A", "aB", "gore 3", " a", "a ", "a_b", "a.b", "a\n", "a\x00",
		"é", "gör", "a\u0301", "a\xff", "\xff", "a`", "a{", "`", "{", "a/", "a:", "ａ", "a\u0663", strings.Repeat("a", 100000),
	} {
		same(t, "IsName "+quoted(s), impl.IsName(s), false)
	}
	for b := range 256 {
		c := string([]byte{byte(b)})
		first := "abcdefghijklmnopqrstuvwxyz"
		same(t, "IsName first "+quoted(c), impl.IsName(c), strings.Contains(first, c))
		same(t, "IsName second "+quoted(c), impl.IsName("a"+c), strings.Contains(first+"0123456789-", c))
	}
}

func TestDecimal(t *testing.T) {
	for n, want := range map[int64]string{
		0: "0", 1: "1", -1: "-1", 10: "10", -10: "-10", 1296000: "1296000",
		999999999999999999: "999999999999999999", 1000000000000000000: "1000000000000000000",
		math.MaxInt64: "9223372036854775807", math.MinInt64: "-9223372036854775808",
	} {
		same(t, "Decimal", impl.Decimal(n), want)
	}
}

func TestReadDecimal(t *testing.T) {
	for s, want := range map[string]int64{
		"0": 0, "1": 1, "-1": -1, "9": 9, "10": 10, "-100": -100, "123456789": 123456789,
		"999999999999999999": 999999999999999999, "-999999999999999999": -999999999999999999,
	} {
		n, ok := impl.ReadDecimal(s)
		same(t, "ReadDecimal "+quoted(s), n, want)
		same(t, "ReadDecimal "+quoted(s), ok, true)
	}
	for _, s := range []string{
		"", "-", "+", "+1", "-0", "00", "01", "-01", "--1", "1-", " 1", "1 ", "1 2", "1_0", "0x1", "1e3", "1.0", "a", "１", "٣",
		"1000000000000000000", "-1000000000000000000", "9223372036854775807", "-9223372036854775808",
		"9223372036854775808", "18446744073709551617", "000000000000000001", "0000000000000000000",
		strings.Repeat("9", 100000), strings.Repeat("0", 100000), "1\x00", "1\n", "\xff",
	} {
		n, ok := impl.ReadDecimal(s)
		same(t, "ReadDecimal "+quoted(s), n, 0)
		same(t, "ReadDecimal "+quoted(s), ok, false)
	}
}

func TestReadDecimalOfNearTexts(t *testing.T) {
	decimal := regexp.MustCompile(`^(0|-?[1-9][0-9]{0,17})$`)
	for _, s := range []string{"0", "7", "-7", "60", "-1296000", "999999999999999999", "-999999999999999999"} {
		for _, x := range nearTexts(s, "0159-+. _a") {
			n, ok := impl.ReadDecimal(x)
			same(t, "ReadDecimal "+quoted(x), ok, decimal.MatchString(x))
			if ok {
				same(t, "Decimal of what is read", impl.Decimal(n), x)
			} else {
				same(t, "what is read of "+quoted(x), n, 0)
			}
		}
	}
}

func TestReadDecimalOfDrawnNumbers(t *testing.T) {
	r := rand.New(rand.NewSource(1))
	for range 2000 {
		n := (r.Int63n(2000000000000000000-1) - 999999999999999999) >> r.Intn(60)
		back, ok := impl.ReadDecimal(impl.Decimal(n))
		same(t, "ReadDecimal of Decimal", back, n)
		same(t, "ReadDecimal of Decimal", ok, true)
	}
}

func TestSplitWords(t *testing.T) {
	for s, want := range map[string][]string{
		"": nil, " ": nil, "     ": nil, "a": {"a"}, "a b": {"a", "b"}, " a": {"a"}, "a ": {"a"},
		"  far  1   -2 ": {"far", "1", "-2"}, "b a b": {"b", "a", "b"}, "a\tb\nc d": {"a\tb\nc", "d"},
		"a\u00a0b c": {"a\u00a0b", "c"}, "\xff \xfe\xe2 \xe2": {"\xff", "\xfe\xe2", "\xe2"}, "é ü": {"é", "ü"},
		"\x00 \x1f\x21": {"\x00", "\x1f\x21"}, "\u2003 \u0120": {"\u2003", "\u0120"},
	} {
		if got := impl.SplitWords(s); !slices.Equal(got, want) {
			t.Errorf("SplitWords %q: got %q, want %q", s, got, want)
		}
	}
	long := strings.Repeat("a", 100000)
	if got := impl.SplitWords(long + strings.Repeat(" ", 100000) + long); !slices.Equal(got, []string{long, long}) {
		t.Errorf("SplitWords of a long text: got %d words", len(got))
	}
	if got := impl.SplitWords(strings.Repeat("b ", 100000)); len(got) != 100000 {
		t.Errorf("SplitWords of many words: got %d words", len(got))
	}
}
