package dump

import (
	"strconv"
	"strings"
	"unicode/utf8"
)

// escapeSize is how many bytes \x and its two digits have.
const escapeSize = 4

// cutQuoted tells the bytes for which the quoted token at the beginning of a text stands, and how many it takes there: none, if it is no token.
func cutQuoted(text string) (string, int) {
	var value []byte
scan:
	for at := 1; at < len(text); at++ {
		c := text[at]
		switch {
		case c == '"':
			return string(value), at + 1
		case isControl(c):
			break scan
		case strings.HasPrefix(text[at:], `\x`):
			b, ok := hexByte(text[at+2:])
			if !ok {
				break scan
			}
			value = append(value, b)
			at += escapeSize - 1
		case c == '\\':
			at++
			if at == len(text) || text[at] != '"' && text[at] != '\\' {
				break scan
			}
			c = text[at]
			fallthrough
		default:
			value = append(value, c)
		}
	}
	return "", 0
}

func isControl(c byte) bool { return c < ' ' || c == 0x7F }

// quote writes bytes as a quoted token.
func quote(value string, _ int) (string, bool) {
	b := []byte{'"'}
	for len(value) > 0 {
		r, size := utf8.DecodeRuneInString(value)
		switch {
		case r == '"' || r == '\\':
			b = append(b, '\\')
			fallthrough
		case !isControl(value[0]) && (r != utf8.RuneError || size > 1):
			b = append(b, value[:size]...)
		default:
			b = append(b, `\x`...)
			b = appendHex(b, value[:1])
		}
		value = value[size:]
	}
	return string(append(b, '"')), true
}

// readProse reads a quoted token, whatever bytes it stands for.
func readProse(text string, _ int) (string, bool) {
	value, _ := cutQuoted(text)
	return value, true
}

// readPiece reads a quoted token that stands for one of several values: no backslash may be in it, since that would part it.
func readPiece(text string, _ int) (string, bool) {
	value, _ := cutQuoted(text)
	return value, !strings.Contains(value, between)
}

// writeHex writes bytes as a hex token.
func writeHex(value string, _ int) (string, bool) {
	return string(appendHex([]byte{'x'}, value)), true
}

// readHex reads a hex token.
func readHex(text string, _ int) (string, bool) {
	var value []byte
	for digits := text[1:]; digits != ""; digits = digits[2:] {
		b, ok := hexByte(digits)
		if !ok {
			return "", false
		}
		value = append(value, b)
	}
	return string(value), true
}

func appendHex(b []byte, value string) []byte {
	const digits = "0123456789abcdef"
	for i := range len(value) {
		b = append(b, digits[value[i]>>4], digits[value[i]&15])
	}
	return b
}

// hexByte reads the two digits that a text begins with.
func hexByte(text string) (byte, bool) {
	if len(text) < 2 {
		return 0, false
	}
	n, err := strconv.ParseUint(text[:2], 16, 8)
	return byte(n), err == nil
}
