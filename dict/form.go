package dict

import (
	"slices"
	"strconv"
	"strings"
)

// What stands between the groups of a name, and between a group's components.
const (
	nameGroups     = "="
	nameComponents = "^"
)

// digits counts those at the front of a text.
func digits(s string) int {
	n := 0
	for n < len(s) && isDigit(rune(s[n])) {
		n++
	}
	return n
}

// allDigits tells whether a text is digits, one at least.
func allDigits(s string) bool { return s != "" && digits(s) == len(s) }

func pastSpaces(s string) string { return strings.TrimLeft(s, " ") }

// pastSign lets one sign go, if there is one.
func pastSign(s string) string {
	if strings.HasPrefix(s, "+") || strings.HasPrefix(s, "-") {
		return s[1:]
	}
	return s
}

// isAge needs only tell where the digits end: what is no digit is a letter of an age.
func isAge(s string) bool { return len(s) == 4 && digits(s) == 3 }

func isDate(s string) bool { return digits(s) == 8 }

func isDecimal(s string) bool {
	s = pastSign(pastSpaces(s))
	whole := digits(s)
	s = s[whole:]
	part := 0
	if strings.HasPrefix(s, ".") {
		part = digits(s[1:])
		s = s[1+part:]
	}
	return whole+part > 0 && (s == "" || isExponent(s))
}

func isExponent(s string) bool {
	return (s[0] == 'E' || s[0] == 'e') && allDigits(pastSign(s[1:]))
}

// isInteger leaves sign, digits and bounds to strconv, which takes just these in base 10.
func isInteger(s string) bool {
	_, err := strconv.ParseInt(pastSpaces(s), 10, 32)
	return err == nil
}

func isMoment(s string) bool {
	if i := strings.IndexAny(s, "+-"); i >= 0 {
		return isClock(s[:i], 4, 14) && isZone(s[i+1:])
	}
	return isClock(s, 4, 14)
}

func isZone(s string) bool { return len(s) == 4 && allDigits(s) }

func isTime(s string) bool { return isClock(s, 2, 6) }

// isClock tells whether a text is from least to most digits, two by two, and, only behind the most, perhaps a fraction.
func isClock(s string, least, most int) bool {
	n := digits(s)
	if n < least || n > most || n%2 != 0 {
		return false
	}
	return n == len(s) || n == most && isFraction(s[n:])
}

// isFraction tells whether a text is a point and one to six digits.
func isFraction(s string) bool {
	part, ok := strings.CutPrefix(s, ".")
	return ok && len(part) <= 6 && allDigits(part)
}

func isUID(s string) bool {
	for _, part := range strings.Split(s, ".") {
		if !allDigits(part) || part[0] == '0' && part != "0" {
			return false
		}
	}
	return true
}

func isName(s string) bool {
	groups := strings.Split(s, nameGroups)
	crowded := func(group string) bool { return strings.Count(group, nameComponents) > 4 }
	return len(groups) <= 3 && !slices.ContainsFunc(groups, crowded)
}
