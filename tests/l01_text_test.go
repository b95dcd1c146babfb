package tests

import (
	"encoding/hex"
	"math"
	"slices"
	"strconv"
	"strings"
	"testing"

	"loop.example/g00987/impl"
)

// allBytes holds each byte once, so that no half of a byte goes untested.
func allBytes() string {
	b := make([]byte, 256)
	for i := range b {
		b[i] = byte(i)
	}
	return string(b)
}

func TestTextLimits(t *testing.T) {
	got := []int{impl.MaxInputLen, impl.MaxUint, impl.MaxLineLen, impl.MaxFieldsPerLine}
	if want := []int{20000, 1000000000, 600, 24}; !slices.Equal(got, want) {
		t.Errorf("limits are %v, want %v", got, want)
	}
}

func TestHexIsReadBack(t *testing.T) {
	list := []string{"", "az", "\x00", "\xff", "\x0f\xf0", "page\n", "é", allBytes(), strings.Repeat("\xa5", impl.MaxInputLen)}
	for _, s := range list {
		text, ok := impl.EncodeHex(s)
		if want := hex.EncodeToString([]byte(s)); !ok || text != want {
			t.Errorf("EncodeHex of %d bytes %.20q: %.40q, %v", len(s), s, text, ok)
		}
		back, ok := impl.DecodeHex(text)
		if !ok || back != s {
			t.Errorf("DecodeHex of %.40q: %.20q, %v", text, back, ok)
		}
	}
}

func TestEncodeHexTooLong(t *testing.T) {
	for _, n := range []int{impl.MaxInputLen + 1, 2 * impl.MaxInputLen, 2*impl.MaxInputLen + 1} {
		if text, ok := impl.EncodeHex(strings.Repeat("a", n)); ok || text != "" {
			t.Errorf("EncodeHex of %d bytes: %.20q, %v", n, text, ok)
		}
	}
}

func TestDecodeHexRejects(t *testing.T) {
	list := []string{
		"0", "617", "617a7", "A0", "0A", "aF", "Fa", "617A", "g0", "0g", "/0", "0/", ":0", "0:", "`0", "0`", "@0",
		" 61", "61 ", "6 1 ", "0x61", "-1", "+1", "\x000", "0\x00", "\xff0", "é", "61\n\n",
		strings.Repeat("61", 100) + "6z",
		strings.Repeat("6", 2*impl.MaxInputLen-1),
		strings.Repeat("6", 2*impl.MaxInputLen+1),
		strings.Repeat("6", 2*impl.MaxInputLen+2),
	}
	for _, s := range list {
		if back, ok := impl.DecodeHex(s); ok || back != "" {
			t.Errorf("DecodeHex(%.40q): %.20q, %v", s, back, ok)
		}
	}
}

func TestDecodeHexReadsOnlyItsDigits(t *testing.T) {
	for c := range 256 {
		digit := strings.IndexByte("0123456789abcdef", byte(c))
		for _, s := range []string{string([]byte{byte(c), '0'}), string([]byte{'0', byte(c)})} {
			back, ok := impl.DecodeHex(s)
			if ok != (digit >= 0) || !ok && back != "" {
				t.Errorf("DecodeHex(%q): %q, %v", s, back, ok)
			}
		}
	}
}

func TestFormatInt(t *testing.T) {
	list := map[int]string{
		0: "0", 1: "1", -1: "-1", 9: "9", 10: "10", -10: "-10", 100: "100", 5007: "5007", -5: "-5",
		impl.MaxUint: "1000000000", -impl.MaxUint: "-1000000000", impl.MaxUint + 1: "1000000001",
		math.MaxInt: "9223372036854775807", math.MinInt: "-9223372036854775808",
		math.MinInt + 1: "-9223372036854775807",
	}
	for n, want := range list {
		if got := impl.FormatInt(n); got != want {
			t.Errorf("FormatInt(%d) is %q, want %q", n, got, want)
		}
	}
}

// numbersToRead are small numbers and those beside each power of ten, where the length of the text changes.
func numbersToRead() []int {
	list := []int{impl.MaxUint - 1, impl.MaxUint}
	for n := range 1200 {
		list = append(list, n)
	}
	for p := 10; p < impl.MaxUint; p *= 10 {
		list = append(list, p-1, p, p+1, 9*p)
	}
	return list
}

func TestNumbersAreReadBack(t *testing.T) {
	for _, want := range numbersToRead() {
		if n, ok := impl.ParseUint(strconv.Itoa(want)); !ok || n != want {
			t.Errorf("ParseUint of %d: %d, %v", want, n, ok)
		}
		if n, ok := impl.ParseUint(impl.FormatInt(want)); !ok || n != want {
			t.Errorf("ParseUint of FormatInt(%d): %d, %v", want, n, ok)
		}
	}
}

func TestParseUintRejectsLeadingZeros(t *testing.T) {
	list := []string{"00", "01", "000", "007", "010", "01000000000", "0000000000", strings.Repeat("0", 100), strings.Repeat("0", 100) + "1"}
	for _, n := range numbersToRead() {
		list = append(list, "0"+strconv.Itoa(n))
	}
	checkNoNumber(t, list)
}

func TestParseUintRejects(t *testing.T) {
	checkNoNumber(t, []string{
		"", "-", "+", "-0", "+0", "-1", "+1", "--1", "-1000000000", " 1", "1 ", "1 2", " ", "\t1", "1\n", "1\x00",
		"a", "1a", "a1", "0x1", "0b1", "0o7", "1_000", "1e3", "1.0", ".5", "1,000", "/", ":", "1/", "1:",
		"１", "\xff", "Inf", "NaN",
		"1000000001", "1000000010", "1999999999", "2000000000", "9999999999", "10000000000", "4294967296", "4294967297",
		"9223372036854775807", "9223372036854775808", "18446744073709551615", "18446744073709551616", "18446744073709551617",
		"-9223372036854775808", "-18446744073709551615", "340282366920938463463374607431768211456",
		strings.Repeat("9", 1000), strings.Repeat("1", impl.MaxInputLen),
	})
}

func checkNoNumber(t *testing.T, list []string) {
	t.Helper()
	for _, s := range list {
		if n, ok := impl.ParseUint(s); ok || n != 0 {
			t.Errorf("ParseUint(%.40q): %d, %v", s, n, ok)
		}
	}
}

func TestSplitFields(t *testing.T) {
	list := []struct {
		line string
		want []string
	}{
		{"", nil},
		{" ", nil},
		{"     ", nil},
		{strings.Repeat(" ", impl.MaxLineLen), nil},
		{"a", []string{"a"}},
		{" a", []string{"a"}},
		{"a ", []string{"a"}},
		{"  a  ", []string{"a"}},
		{" take  1 ", []string{"take", "1"}},
		{"take 1", []string{"take", "1"}},
		{"a b   c d", []string{"a", "b", "c", "d"}},
		{"b a b", []string{"b", "a", "b"}},
		{"! ~ !~", []string{"!", "~", "!~"}},
		{"\"x,y\" -5;", []string{"\"x,y\"", "-5;"}},
		{strings.Repeat("x", impl.MaxLineLen), []string{strings.Repeat("x", impl.MaxLineLen)}},
		{strings.Repeat(" ", impl.MaxLineLen-1) + "z", []string{"z"}},
	}
	for _, c := range list {
		if got, ok := impl.SplitFields(c.line); !ok || !slices.Equal(got, c.want) {
			t.Errorf("SplitFields(%.40q): %q, %v", c.line, got, ok)
		}
	}
}

func TestSplitFieldsCountsFields(t *testing.T) {
	for n := range impl.MaxFieldsPerLine + 1 {
		for _, field := range []string{" a", "a ", "  abc  "} {
			want := slices.Repeat([]string{strings.TrimSpace(field)}, n)
			if got, ok := impl.SplitFields(strings.Repeat(field, n)); !ok || !slices.Equal(got, want) {
				t.Errorf("SplitFields of %d fields %q: %q, %v", n, field, got, ok)
			}
		}
	}
}

func TestSplitFieldsRejects(t *testing.T) {
	list := []string{
		strings.Repeat(" ", impl.MaxLineLen+1),
		strings.Repeat("x", impl.MaxLineLen+1),
		"a" + strings.Repeat(" ", impl.MaxLineLen),
		strings.Repeat("a ", impl.MaxFieldsPerLine+1),
		strings.Repeat(" a", impl.MaxFieldsPerLine+1),
		strings.Repeat("a ", impl.MaxFieldsPerLine) + "a",
		strings.Repeat("a ", impl.MaxLineLen/2),
		strings.Repeat("x", impl.MaxInputLen),
		"a\tb", "a\nb", "a b\n", "\r", "é", "a b é",
	}
	for _, line := range list {
		if got, ok := impl.SplitFields(line); ok || got != nil {
			t.Errorf("SplitFields(%.40q): %q, %v", line, got, ok)
		}
	}
}

func TestSplitFieldsTakesOnlyPrintedBytes(t *testing.T) {
	for c := range 256 {
		b := string([]byte{byte(c)})
		for _, line := range []string{b, b + "ab c", "ab" + b + "c", "ab " + b, "ab c" + b} {
			got, ok := impl.SplitFields(line)
			if valid := c >= 32 && c <= 126; ok != valid || !ok && got != nil {
				t.Errorf("SplitFields(%q): %q, %v", line, got, ok)
			}
			if ok && !slices.Equal(got, strings.Fields(line)) {
				t.Errorf("SplitFields(%q) is %q", line, got)
			}
		}
	}
}

func TestSplitFieldsReturnsNewMemory(t *testing.T) {
	line := " take  1 "
	first, _ := impl.SplitFields(line)
	first[0] = "changed"
	if second, ok := impl.SplitFields(line); !ok || !slices.Equal(second, []string{"take", "1"}) {
		t.Errorf("the second call returned %q, %v", second, ok)
	}
}

func TestClamp(t *testing.T) {
	list := []struct{ n, low, high, want int }{
		{9, 1, 5, 5}, {0, 1, 5, 1}, {3, 1, 5, 3}, {1, 1, 5, 1}, {5, 1, 5, 5}, {6, 1, 5, 5},
		{-9, -5, -1, -5}, {0, -5, -1, -1}, {-3, -5, -1, -3}, {4, 7, 7, 7}, {9, 7, 7, 7},
		{0, 5, 1, 5}, {3, 5, 1, 5}, {9, 5, 1, 5}, {1, 5, 1, 5}, {0, 0, -1, 0},
		{math.MaxInt, 0, 10, 10}, {math.MinInt, 0, 10, 0},
		{0, math.MinInt, math.MaxInt, 0}, {math.MinInt, math.MinInt, math.MaxInt, math.MinInt},
		{math.MaxInt, math.MinInt, math.MaxInt, math.MaxInt}, {0, math.MaxInt, math.MinInt, math.MaxInt},
	}
	for _, c := range list {
		if got := impl.Clamp(c.n, c.low, c.high); got != c.want {
			t.Errorf("Clamp(%d, %d, %d) is %d, want %d", c.n, c.low, c.high, got, c.want)
		}
	}
}

func TestClampedValuesAreInTheRange(t *testing.T) {
	for low := -4; low <= 4; low++ {
		for high := -4; high <= 4; high++ {
			for n := -6; n <= 6; n++ {
				checkClamp(t, n, low, high)
			}
		}
	}
}

func checkClamp(t *testing.T, n, low, high int) {
	t.Helper()
	got := impl.Clamp(n, low, high)
	inside := n >= low && n <= high
	switch {
	case high < low && got != low:
		t.Errorf("Clamp(%d, %d, %d) is %d, want the low end", n, low, high, got)
	case high >= low && (got < low || got > high):
		t.Errorf("Clamp(%d, %d, %d) is %d, outside the range", n, low, high, got)
	case inside && got != n, n < low && got != low, low <= high && n > high && got != high:
		t.Errorf("Clamp(%d, %d, %d) is %d", n, low, high, got)
	}
}
