package impl

import (
	"strconv"
	"strings"
)

const (
	MaxInputLen      = 20000
	MaxUint          = 1000000000
	MaxLineLen       = 600
	MaxFieldsPerLine = 24
)

const hexDigits = "0123456789abcdef"

func EncodeHex(s string) (string, bool) {
	if len(s) > MaxInputLen {
		return "", false
	}
	text := make([]byte, 0, 2*len(s))
	for i := range len(s) {
		text = append(text, hexDigits[s[i]>>4], hexDigits[s[i]&15])
	}
	return string(text), true
}

func DecodeHex(s string) (string, bool) {
	if len(s)%2 != 0 || len(s) > 2*MaxInputLen {
		return "", false
	}
	decoded := make([]byte, 0, len(s)/2)
	for i := 0; i < len(s); i += 2 {
		high := strings.IndexByte(hexDigits, s[i])
		low := strings.IndexByte(hexDigits, s[i+1])
		if high < 0 || low < 0 {
			return "", false
		}
		decoded = append(decoded, byte(high<<4|low))
	}
	return string(decoded), true
}

func FormatInt(n int) string {
	return strconv.Itoa(n)
}

func ParseUint(s string) (int, bool) {
	n, err := strconv.Atoi(s)
	if err != nil || n < 0 || n > MaxUint {
		return 0, false
	}
	// Atoi also reads leading zeros, a plus sign and "-0", which FormatInt never writes.
	if FormatInt(n) != s {
		return 0, false
	}
	return n, true
}

func SplitFields(line string) ([]string, bool) {
	if len(line) > MaxLineLen {
		return nil, false
	}
	var fields []string
	start, pos := 0, 0
scan:
	for pos < len(line) {
		switch c := line[pos]; {
		case c < ' ' || c > '~':
			break scan
		case c == ' ':
			fields = appendField(fields, line[start:pos])
			start = pos + 1
		}
		pos++
	}
	if pos < len(line) {
		return nil, false
	}
	fields = appendField(fields, line[start:])
	if len(fields) > MaxFieldsPerLine {
		return nil, false
	}
	return fields, true
}

// appendField leaves out the empty text beside a space that does not end a field.
// It copies the field because a result shares no memory with an argument.
func appendField(fields []string, field string) []string {
	if field == "" {
		return fields
	}
	return append(fields, strings.Clone(field))
}

func Clamp(n int, low int, high int) int {
	// The outer bound is low, so low is the answer where high is less than low.
	return max(low, min(n, high))
}
