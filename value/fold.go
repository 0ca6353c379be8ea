package value

import "unicode/utf8"

// Fold takes away the case of letters (P5.10).
func Fold(s string) string {
	var folded []byte
	done := 0 // what is no capital is copied as bytes, since it may be no rune at all
	for i, r := range s {
		if !isCapital(r) {
			continue
		}
		folded = append(folded, s[done:i]...)
		folded = utf8.AppendRune(folded, r+32)
		done = i + utf8.RuneLen(r)
	}
	return string(append(folded, s[done:]...))
}

func isCapital(r rune) bool {
	return r >= 'A' && r <= 'Z' || r >= 0xC0 && r <= 0xDE && r != 0xD7
}
