package value

import (
	"cmp"
	"math/bits"
	"strconv"
	"strings"

	"modality/api"
)

const maxNumberBytes = 16

// ParseNumber reads a decimal number, exactly (P5.8).
func ParseNumber(s string) (api.Number, error) {
	if len(s) > maxNumberBytes {
		return api.Number{}, refusal(maxNumberBytes, api.ErrValueLong)
	}
	c := cursor{text: s}
	neg := c.take("+-") == '-'
	digits, exp := c.decimal()
	if c.take("Ee") != 0 {
		exp += c.whole()
	}
	if err := c.end(); err != nil {
		return api.Number{}, err
	}
	return exactly(neg, uint64(worth(digits)), exp), nil
}

// decimal reads digits with perhaps a point among them or beside them: all of the digits, and the exponent that the point gives them.
func (c *cursor) decimal() (digits string, exp int64) {
	ahead := c.digits(0, len(c.text))
	c.take(".")
	least := max(0, 1-len(ahead))
	behind := c.digits(least, len(c.text)) // without a point there are none left
	return ahead + behind, -int64(len(behind))
}

// exactly gives a number in its one form.
func exactly(neg bool, digits uint64, exp int64) api.Number {
	if digits == 0 {
		return api.Number{}
	}
	for digits%10 == 0 {
		digits, exp = digits/10, exp+1
	}
	return api.Number{Neg: neg, Digits: digits, Exp: exp}
}

// PrintNumber writes a decimal number (P5.8).
func PrintNumber(d api.Number) (string, error) {
	if d.Digits%10 == 0 && d != (api.Number{}) {
		return "", refusal(1, api.ErrValueField)
	}
	text := shortest(d)
	if d.Neg {
		text = "-" + text
	}
	if len(text) > maxNumberBytes {
		return "", refusal(0, api.ErrValueLong)
	}
	return text, nil
}

// shortest writes a number without its sign.
func shortest(d api.Number) string {
	digits := strconv.FormatUint(d.Digits, 10)
	text := digits + "E" + strconv.FormatInt(d.Exp, 10)
	if d.Exp < -maxNumberBytes || d.Exp > maxNumberBytes { // plain it would be too long, and perhaps far too long to be written at all
		return text
	}
	if plain := plainText(digits, int(d.Exp)); len(plain) <= len(text) {
		return plain
	}
	return text
}

func plainText(digits string, exp int) string {
	if exp >= 0 {
		return digits + strings.Repeat("0", exp)
	}
	if ahead := 1 - exp - len(digits); ahead > 0 {
		digits = strings.Repeat("0", ahead) + digits
	}
	point := len(digits) + exp
	return digits[:point] + "." + digits[point:]
}

// CompareNumber tells which of two is the greater (P5.8).
func CompareNumber(a, b api.Number) int {
	if c := cmp.Compare(signOf(a), signOf(b)); c != 0 {
		return c
	}
	return signOf(a) * compareSizes(a, b)
}

func signOf(d api.Number) int {
	switch {
	case d.Digits == 0:
		return 0
	case d.Neg:
		return -1
	}
	return 1
}

// compareSizes compares two numbers, neither of them zero, without their signs.
func compareSizes(a, b api.Number) int {
	if a.Exp < b.Exp {
		return -compareSizes(b, a)
	}
	more := uint64(a.Exp) - uint64(b.Exp) // right for any two, since the difference has 64 bits
	if more > 19 {
		return 1 // b's digits are below ten to the 20
	}
	scale := uint64(1)
	for range more {
		scale *= 10
	}
	over, digits := bits.Mul64(a.Digits, scale)
	if over > 0 {
		return 1
	}
	return cmp.Compare(digits, b.Digits)
}
