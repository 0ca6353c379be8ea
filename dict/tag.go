package dict

import (
	"strconv"
	"strings"

	"modality/api"
)

// PrintTag writes a tag (P3.4).
func PrintTag(t api.Tag) string {
	return "(" + hex(group(t)) + "," + hex(element(t)) + ")"
}

// hex writes four digits: the one put ahead keeps the zeros at the front.
func hex(n api.Tag) string {
	return strings.ToUpper(strconv.FormatUint(uint64(n|0x10000), 16))[1:]
}

// ParseTag reads a tag, or a keyword (P3.4).
func ParseTag(s string) (api.Tag, error) {
	if t, ok := readDigits(s); ok {
		return t, nil
	}
	if t, ok := ByKeyword(s); ok {
		return t, nil
	}
	if isWord(s) {
		return 0, refusal(0, api.ErrDictUnknown)
	}
	return 0, refusal(0, api.ErrDictTag)
}

// readDigits reads the forms of digits: each has a length of its own.
func readDigits(s string) (api.Tag, bool) {
	if len(s) == len("(gggg,eeee)") && s[0] == '(' && s[10] == ')' {
		return readPair(s[1:10])
	}
	if len(s) == len("gggg,eeee") {
		return readPair(s)
	}
	return readNumber(s)
}

func readPair(s string) (api.Tag, bool) {
	if s[4] != ',' {
		return 0, false
	}
	return readNumber(s[:4] + s[5:])
}

func readNumber(s string) (api.Tag, bool) {
	if len(s) != len("ggggeeee") {
		return 0, false
	}
	n, err := strconv.ParseUint(s, 16, 32)
	return api.Tag(n), err == nil
}

// isWord tells whether a text might be a keyword: letters and digits, a letter first.
func isWord(s string) bool {
	for i, r := range s {
		if !isLetter(r) && (i == 0 || !isDigit(r)) {
			return false
		}
	}
	return s != ""
}
