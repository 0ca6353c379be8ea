package engine

import (
	"strconv"
	"unicode/utf8"

	"modality/api"
)

// word is a word of a line: what it stands for, and whether it does so in quotes.
type word struct {
	text   string
	quoted bool
}

// isPlain tells whether a word is just this text.
func (w word) isPlain(text string) bool { return !w.quoted && w.text == text }

func isBlank(c byte) bool { return c == '\t' || c == '\r' || c == ' ' }

// isControl tells whether a byte may not stand for itself in quotes.
func isControl(c byte) bool { return c < ' ' || c == 0x7F }

// skipBlanks is a line without the blanks that it begins with.
func skipBlanks(line string) string {
	for line != "" && isBlank(line[0]) {
		line = line[1:]
	}
	return line
}

// cutWords parts a line into its words; false: one that begins with a quote is none.
func cutWords(line string) ([]word, bool) {
	var words []word
	at := 0
cutting:
	for {
		switch {
		case at == len(line):
			break cutting
		case isBlank(line[at]):
			at++
		case line[at] == '"':
			text, size := cutQuoted(line[at:])
			if size == 0 {
				return nil, false
			}
			words = append(words, word{text, true})
			at += size
		default:
			size := plainSize(line[at:])
			words = append(words, word{text: line[at : at+size]})
			at += size
		}
	}
	return words, true
}

// plainSize tells how many bytes stand ahead of the next blank.
func plainSize(text string) int {
	size := 0
	for size < len(text) && !isBlank(text[size]) {
		size++
	}
	return size
}

// cutQuoted tells the bytes for which the quoted word at the beginning of a text stands, and how many it takes there: none, if it is no word.
func cutQuoted(text string) (string, int) {
	var value []byte
scan:
	for at := 1; at < len(text); at++ {
		c := text[at]
		switch {
		case c == '"':
			if size := at + 1; size == len(text) || isBlank(text[size]) {
				return string(value), size
			}
			break scan
		case isControl(c):
			break scan
		case c == '\\':
			meant, size := readEscape(text[at:])
			if size == 0 {
				break scan
			}
			c = meant
			at += size - 1
			fallthrough
		default:
			value = append(value, c)
		}
	}
	return "", 0
}

// readEscape tells the byte for which the escape at the beginning of a text stands, and how many it takes there: none, if it is no escape.
func readEscape(text string) (byte, int) {
	if len(text) < 2 {
		return 0, 0
	}
	switch c := text[1]; c {
	case '"', '\\':
		return c, 2
	case 'n':
		return '\n', 2
	case 'r':
		return '\r', 2
	case 't':
		return '\t', 2
	case 'x':
		if b, ok := hexByte(text[2:]); ok {
			return b, 4
		}
	}
	return 0, 0
}

// quote writes a text as a quoted word. One that is too long for any script stays so: it is not gone on with.
func quote(text string) string {
	b := []byte{'"'}
	for len(text) > 0 && len(b) <= api.MaxDump {
		r, size := utf8.DecodeRuneInString(text)
		switch {
		case r == '\n':
			b = append(b, `\n`...)
		case r == '\r':
			b = append(b, `\r`...)
		case r == '\t':
			b = append(b, `\t`...)
		case r == '"' || r == '\\':
			b = append(b, '\\')
			fallthrough
		case !isControl(text[0]) && (r != utf8.RuneError || size > 1):
			b = append(b, text[:size]...)
		default:
			b = append(b, `\x`...)
			b = appendHex(b, text[0])
		}
		text = text[size:]
	}
	return string(append(b, '"'))
}

func appendHex(b []byte, c byte) []byte {
	const digits = "0123456789abcdef"
	return append(b, digits[c>>4], digits[c&15])
}

// hexByte reads the two digits that a text begins with.
func hexByte(text string) (byte, bool) {
	if len(text) < 2 {
		return 0, false
	}
	n, err := strconv.ParseUint(text[:2], 16, 8)
	return byte(n), err == nil
}
