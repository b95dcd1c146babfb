package tests

import (
	"math"
	"regexp"
	"slices"
	"strconv"
	"strings"
	"testing"
	"unsafe"

	"loop.example/g00987/impl"
)

var (
	writtenName   = regexp.MustCompile(`^[a-z]{1,8}$`)
	writtenNumber = regexp.MustCompile(`^(0|-?[1-9][0-9]{0,2})$`)
)

// edgeNumbers are the ends of the valid numbers, those beside them, and the ends of int.
func edgeNumbers() []int {
	return []int{
		math.MinInt, math.MinInt + 1, -1000000000, -1001, -1000, -999, -998, -100, -10, -9, -1, 0,
		1, 9, 10, 100, 998, 999, 1000, 1001, 1000000000, math.MaxInt - 1, math.MaxInt,
	}
}

func badNames() []string {
	return []string{
		"abcdefghi", "abcdefgh ", strings.Repeat("z", 9), strings.Repeat("z", 16), strings.Repeat("a", impl.MaxInputLen),
		"A", "aB", "Ab", "MOVETO", "moveTo", "1", "a1", "1a", "-", "-a", "a-", "a-b", " ", " a", "a ", "a b", "a_b", "`", "{",
		"\x00", "a\x00", "\x00a", "a\x00b", "\xff", "a\xff", "\xffa", "a\x80b", "é", "aé", "éa", "aéb", "a\n",
		// The low byte of these characters is that of a letter.
		"\u0161", "a\u0161", "\U00010061", "\u0462b",
	}
}

func goodNames() []string {
	return []string{"a", "z", "m", "az", "za", "moveto", "lineto", "repeat", "end", "abcdefg", "abcdefgh", "zzzzzzzz", "aaaaaaaa"}
}

// badTokens are not valid, each for one reason, and the last ones for several.
func badTokens() []impl.Token {
	var list []impl.Token
	for _, n := range edgeNumbers() {
		if n < -999 || n > 999 {
			list = append(list, impl.Token{N: n})
		}
		if n != 0 {
			list = append(list, impl.Token{Name: "a", N: n}, impl.Token{Name: "moveto", N: n})
		}
	}
	for _, name := range badNames() {
		list = append(list, impl.Token{Name: name})
	}
	return append(list, impl.Token{Name: "A", N: 5}, impl.Token{Name: "-5", N: -5}, impl.Token{Name: "\x00", N: math.MinInt})
}

// goodTokens are all numbers and some names.
func goodTokens() []impl.Token {
	var list []impl.Token
	for _, name := range goodNames() {
		list = append(list, impl.Token{Name: name})
	}
	for n := -999; n <= 999; n++ {
		list = append(list, impl.Token{N: n})
	}
	return list
}

func writtenToken(t impl.Token) string {
	if t.Name != "" {
		return t.Name
	}
	return strconv.Itoa(t.N)
}

func writtenTokens(list []impl.Token) string {
	var fields []string
	for _, t := range list {
		fields = append(fields, writtenToken(t))
	}
	return strings.Join(fields, " ")
}

func checkScanned(t *testing.T, s string, want []impl.Token) {
	t.Helper()
	if got, ok := impl.ScanText(s); !ok || !slices.Equal(got, want) {
		t.Errorf("ScanText(%.60q): %v, %v, want %v", s, got, ok, want)
	}
}

func checkNotScanned(t *testing.T, s string) {
	t.Helper()
	if got, ok := impl.ScanText(s); ok || got != nil {
		t.Errorf("ScanText(%.60q): %v, %v", s, got, ok)
	}
}

func checkReadBack(t *testing.T, list []impl.Token) {
	t.Helper()
	text, ok := impl.FormatTokens(list)
	if want := writtenTokens(list); !ok || text != want {
		t.Errorf("FormatTokens(%v): %q, %v, want %q", list, text, ok, want)
	}
	checkScanned(t, text, list)
}

func TestScanLimits(t *testing.T) {
	if impl.MaxTokens != 60 {
		t.Errorf("MaxTokens is %d", impl.MaxTokens)
	}
}

func TestIsName(t *testing.T) {
	for n := range 20 {
		for _, letter := range []string{"a", "m", "z"} {
			if got := impl.IsName(strings.Repeat(letter, n)); got != (n >= 1 && n <= 8) {
				t.Errorf("IsName of %d letters %s is %v", n, letter, got)
			}
		}
	}
	for _, name := range goodNames() {
		if !impl.IsName(name) {
			t.Errorf("IsName(%q) is false", name)
		}
	}
	for _, name := range append(badNames(), "") {
		if impl.IsName(name) {
			t.Errorf("IsName(%.40q) is true", name)
		}
	}
}

func TestNamesAreOfLettersOnly(t *testing.T) {
	for c := range 256 {
		b := string([]byte{byte(c)})
		for _, name := range []string{b, b + "ab", "a" + b + "b", "ab" + b, b + "abcdefg", "abc" + b + "defg", "abcdefg" + b} {
			if got := impl.IsName(name); got != (c >= 'a' && c <= 'z') {
				t.Errorf("IsName(%q) is %v", name, got)
			}
		}
	}
}

func TestTokenOk(t *testing.T) {
	for _, token := range goodTokens() {
		if !impl.TokenOk(token) {
			t.Errorf("TokenOk(%v) is false", token)
		}
	}
	for _, token := range badTokens() {
		if impl.TokenOk(token) {
			t.Errorf("TokenOk(%.40q, %d) is true", token.Name, token.N)
		}
	}
}

func TestFormatTokens(t *testing.T) {
	list := []struct {
		tokens []impl.Token
		want   string
	}{
		{nil, ""},
		{[]impl.Token{}, ""},
		{[]impl.Token{{}}, "0"},
		{[]impl.Token{{}, {}}, "0 0"},
		{[]impl.Token{{N: -5}}, "-5"},
		{[]impl.Token{{N: 999}, {N: -999}}, "999 -999"},
		{[]impl.Token{{Name: "a"}}, "a"},
		{[]impl.Token{{N: 5}, {Name: "moveto"}, {N: -3}}, "5 moveto -3"},
		{[]impl.Token{{Name: "abcdefgh"}, {Name: "abcdefgh"}, {N: 10}}, "abcdefgh abcdefgh 10"},
	}
	for _, c := range list {
		if got, ok := impl.FormatTokens(c.tokens); !ok || got != c.want {
			t.Errorf("FormatTokens(%v): %q, %v, want %q", c.tokens, got, ok, c.want)
		}
	}
}

func TestFormatTokensCountsTokens(t *testing.T) {
	for _, token := range []impl.Token{{}, {N: -999}, {Name: "a"}, {Name: "abcdefgh"}} {
		for n := range 130 {
			list := slices.Repeat([]impl.Token{token}, n)
			want := ""
			if n <= impl.MaxTokens {
				want = writtenTokens(list)
			}
			if got, ok := impl.FormatTokens(list); ok != (n <= impl.MaxTokens) || got != want {
				t.Errorf("FormatTokens of %d tokens %v: %q, %v", n, token, got, ok)
			}
		}
	}
}

func TestFormatTokensRejects(t *testing.T) {
	for _, bad := range badTokens() {
		for _, n := range []int{1, 2, 3, impl.MaxTokens, impl.MaxTokens + 1} {
			for _, at := range []int{0, n / 2, n - 1} {
				list := slices.Repeat([]impl.Token{{Name: "a"}}, n)
				list[at] = bad
				if got, ok := impl.FormatTokens(list); ok || got != "" {
					t.Errorf("FormatTokens of %d tokens with %.40q, %d at %d: %q, %v", n, bad.Name, bad.N, at, got, ok)
				}
			}
		}
	}
}

func TestEachTokenIsReadBack(t *testing.T) {
	for _, token := range goodTokens() {
		checkReadBack(t, []impl.Token{token})
		checkReadBack(t, []impl.Token{{N: -1}, token, {Name: "b"}})
		checkReadBack(t, []impl.Token{token, token})
	}
}

func TestTokensAreReadBack(t *testing.T) {
	some := []impl.Token{{}, {N: 7}, {N: -7}, {N: 999}, {N: -999}, {Name: "a"}, {Name: "abcdefgh"}}
	lists := [][]impl.Token{nil}
	for range 4 {
		var longer [][]impl.Token
		for _, list := range lists {
			checkReadBack(t, list)
			for _, token := range some {
				longer = append(longer, append(slices.Clone(list), token))
			}
		}
		lists = longer
	}
	for n := range impl.MaxFieldsPerLine + 1 {
		var list []impl.Token
		for i := range n {
			list = append(list, some[i*i%len(some)])
		}
		checkReadBack(t, list)
		checkReadBack(t, slices.Repeat([]impl.Token{{Name: "abcdefgh"}}, n))
		checkReadBack(t, slices.Repeat([]impl.Token{{N: -100}}, n))
	}
}

func TestScanText(t *testing.T) {
	list := []struct {
		text string
		want []impl.Token
	}{
		{"", nil},
		{" ", nil},
		{"     ", nil},
		{"0", []impl.Token{{}}},
		{"5", []impl.Token{{N: 5}}},
		{"-5", []impl.Token{{N: -5}}},
		{"999 -999", []impl.Token{{N: 999}, {N: -999}}},
		{"a", []impl.Token{{Name: "a"}}},
		{"abcdefgh", []impl.Token{{Name: "abcdefgh"}}},
		{" 5  moveto -3 ", []impl.Token{{N: 5}, {Name: "moveto"}, {N: -3}}},
		{"   a", []impl.Token{{Name: "a"}}},
		{"a   ", []impl.Token{{Name: "a"}}},
		{"a    -1    b", []impl.Token{{Name: "a"}, {N: -1}, {Name: "b"}}},
	}
	for _, c := range list {
		checkScanned(t, c.text, c.want)
	}
}

func TestScanTextRejects(t *testing.T) {
	fields := []string{
		"-0", "00", "05", "-05", "-00", "-", "--", "+", "+5", "+0", "--5", "-+5", "+-5", "---5", "5-", "5-5", "-5-",
		"5a", "a5", "-a", "a-", "-5a", "0x5", "1e2", "1.0", "1_0", "5,", "\"5\"", "1000", "-1000", "1001", "-1001", "0999", "-0999", "9990",
		"1000000000", "-1000000000", "1000000001", "-1000000001", "9223372036854775807", "-9223372036854775807",
		"9223372036854775808", "-9223372036854775808", "18446744073709551615", "18446744073709551616", "18446744073709551621", "-18446744073709551621",
		"340282366920938463463374607431768211461", strings.Repeat("9", 500), "-" + strings.Repeat("9", 500), strings.Repeat("0", 500) + "5",
		"abcdefghi", strings.Repeat("a", 500), "A", "aB", "Ab", "moveTo", "a_b", "!", "~", "a~", "\x00", "a\x00", "\x80", "a\x80b", "\xff", "é", "5é", "５",
		"\t", "a\tb", "5\n", "\n", "a\r",
	}
	for _, field := range fields {
		for _, text := range []string{field, " " + field + " ", field + " a", "a " + field, "5 " + field + " a"} {
			checkNotScanned(t, text)
		}
	}
}

// TestEveryShortField compares with the way in which the tokens are written.
func TestEveryShortField(t *testing.T) {
	fields := []string{""}
	for range 5 {
		var longer []string
		for _, field := range fields {
			for _, c := range "-+0159azA" {
				longer = append(longer, field+string(c))
			}
		}
		fields = longer
		for _, field := range fields {
			checkField(t, field)
		}
	}
}

func checkField(t *testing.T, field string) {
	t.Helper()
	switch {
	case writtenName.MatchString(field):
		checkScanned(t, field, []impl.Token{{Name: field}})
	case writtenNumber.MatchString(field):
		n, _ := strconv.Atoi(field)
		checkScanned(t, field, []impl.Token{{N: n}})
	default:
		checkNotScanned(t, field)
	}
}

func TestScannedTokensAreFormatted(t *testing.T) {
	for _, field := range []string{"a", "abcdefgh", "0", "-999"} {
		want := strings.Repeat(field+" ", 2) + field
		list, ok := impl.ScanText("  " + strings.Repeat(field+"   ", 3))
		if text, is := impl.FormatTokens(list); !ok || !is || text != want {
			t.Errorf("%v, %v is written %q, %v, want %q", list, ok, text, is, want)
		}
	}
}

func TestScanTextLimits(t *testing.T) {
	for _, token := range []impl.Token{{}, {N: -5}, {Name: "a"}, {Name: "abcdefgh"}} {
		field := writtenToken(token)
		full := strings.Repeat(field+" ", impl.MaxFieldsPerLine)
		checkScanned(t, full, slices.Repeat([]impl.Token{token}, impl.MaxFieldsPerLine))
		checkNotScanned(t, full+field)
		checkNotScanned(t, strings.Repeat(" "+field, impl.MaxFieldsPerLine+1))
		rest := strings.Repeat(" ", impl.MaxLineLen-len(field))
		checkScanned(t, field+rest, []impl.Token{token})
		checkScanned(t, rest+field, []impl.Token{token})
		checkNotScanned(t, field+rest+" ")
		checkNotScanned(t, " "+rest+field)
	}
	checkScanned(t, strings.Repeat(" ", impl.MaxLineLen), nil)
	checkNotScanned(t, strings.Repeat(" ", impl.MaxLineLen+1))
	checkNotScanned(t, strings.Repeat("a ", impl.MaxLineLen/2))
	checkNotScanned(t, strings.Repeat("a", impl.MaxInputLen))
}

func TestFormatTokensLeavesItsListAlone(t *testing.T) {
	room := []impl.Token{{N: 5}, {Name: "moveto"}, {Name: "kept", N: 7}, {N: math.MaxInt}}
	before := slices.Clone(room)
	for n := range len(room) + 1 {
		impl.FormatTokens(room[:n])
		if !slices.Equal(room, before) {
			t.Fatalf("the list of %d tokens became %v", n, room)
		}
	}
}

func TestScanReturnsNewMemory(t *testing.T) {
	first, _ := impl.ScanText("5 moveto")
	first[0] = impl.Token{Name: "changed"}
	checkScanned(t, "5 moveto", []impl.Token{{N: 5}, {Name: "moveto"}})
	name := strings.Repeat("ab", 3)
	text, _ := impl.FormatTokens([]impl.Token{{Name: name}})
	if unsafe.StringData(text) == unsafe.StringData(name) {
		t.Error("the text is the name itself")
	}
	list, _ := impl.ScanText(name)
	if unsafe.StringData(list[0].Name) == unsafe.StringData(name) {
		t.Error("the name is the text itself")
	}
}
