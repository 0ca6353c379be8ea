package value

import (
	"strings"
	"unicode/utf8"
)

// Glob tells whether a text fits a pattern with wildcards (P5.9).
func Glob(pattern, text string) bool {
	p, t := elements(pattern), elements(text)
	i, star, from := 0, -1, 0 // star: the last one met; from: where the text goes on behind what it stands for
again:
	for {
		for j := from; j < len(t); j++ {
			for i < len(p) && p[i] == '*' {
				star, from = i, j
				i++
			}
			if i < len(p) && (p[i] == '?' || p[i] == t[j]) {
				i++
				continue
			}
			if star < 0 {
				return false
			}
			i, from = star+1, from+1 // the star takes one more; an earlier one could win nothing by it
			continue again
		}
		return isStars(p[i:])
	}
}

// elements cuts a text into its runes. A byte that is part of none becomes a number below 0, which no rune is.
func elements(s string) []rune {
	var list []rune
	for i, r := range s {
		if r == utf8.RuneError && !strings.HasPrefix(s[i:], string(utf8.RuneError)) {
			r = -rune(s[i])
		}
		list = append(list, r)
	}
	return list
}

func isStars(pattern []rune) bool {
	for _, r := range pattern {
		if r != '*' {
			return false
		}
	}
	return true
}
