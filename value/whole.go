package value

import (
	"math"
	"strconv"

	"modality/api"
)

const maxWholeBytes = 12

// ParseWhole reads a whole number (P5.7).
func ParseWhole(s string) (int64, error) {
	if len(s) > maxWholeBytes {
		return 0, refusal(maxWholeBytes, api.ErrValueLong)
	}
	c := cursor{text: s}
	n := c.whole()
	if err := c.end(); err != nil {
		return 0, err
	}
	if !isWhole(n) {
		return 0, refusal(0, api.ErrValueRange)
	}
	return n, nil
}

// whole reads perhaps a sign, and digits.
func (c *cursor) whole() int64 {
	sign := c.take("+-")
	n := worth(c.digits(1, len(c.text)))
	if sign == '-' {
		return -n
	}
	return n
}

func isWhole(n int64) bool { return n >= math.MinInt32 && n <= math.MaxInt32 }

// PrintWhole writes a whole number (P5.7).
func PrintWhole(n int64) (string, error) {
	if !isWhole(n) {
		return "", refusal(0, api.ErrValueRange)
	}
	return strconv.FormatInt(n, 10), nil
}
