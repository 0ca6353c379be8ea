package dict

import "strings"

func isDigit(r rune) bool { return r >= '0' && r <= '9' }

func isCapital(r rune) bool { return r >= 'A' && r <= 'Z' }

func isLetter(r rune) bool { return isCapital(r) || r >= 'a' && r <= 'z' }

// isDigitOr tells whether a character is a digit or one of the marks.
func isDigitOr(marks string, r rune) bool {
	return isDigit(r) || strings.ContainsRune(marks, r)
}

func isTitleChar(r rune) bool { return r == ' ' || isLinkChar(r) }

func isLinkChar(r rune) bool { return r > ' ' && r < 0x7F && r != '\\' }

func isAgeChar(r rune) bool { return isDigitOr("DWMY", r) }

func isCodeChar(r rune) bool { return isCapital(r) || isDigitOr(" _", r) }

func isDecimalChar(r rune) bool { return isDigitOr("+-.Ee ", r) }

func isMomentChar(r rune) bool { return isDigitOr("+-.", r) }

func isIntegerChar(r rune) bool { return isDigitOr("+- ", r) }

func isPointed(r rune) bool { return isDigitOr(".", r) }

func isControl(r rune) bool { return r < 0x20 || r >= 0x7F && r <= 0x9F }

// isLineChar tells whether a character may stand in a text that has one line and perhaps others beside it.
func isLineChar(r rune) bool { return !isControl(r) && r != '\\' }

// isProseChar tells whether a character may stand in a text of several lines: tabs and the ends of lines and pages too.
func isProseChar(r rune) bool { return !isControl(r) || strings.ContainsRune("\t\n\f\r", r) }
