package value

import (
	"strings"

	"modality/api"
)

// cursor goes through a text from the left to the right, once.
type cursor struct {
	text   string
	at     int  // so far it is read
	broken bool // no text of the form goes on from there: nothing more is read
}

// next tells the byte ahead; 0, which no form has, if there is none to read.
func (c *cursor) next() byte {
	if c.broken || c.at == len(c.text) {
		return 0
	}
	return c.text[c.at]
}

func (c *cursor) isOnDigit() bool { return isDigit(c.next()) }

// take reads the byte ahead if it is one of these; it tells which, 0 if none.
func (c *cursor) take(these string) byte {
	b := c.next()
	if strings.IndexByte(these, b) < 0 {
		return 0
	}
	c.at++
	return b
}

// digits reads as many digits as there are, but no more than most; with fewer than least of them the form is broken.
func (c *cursor) digits(least, most int) string {
	from := c.at
	for c.at-from < most && c.isOnDigit() {
		c.at++
	}
	if c.at-from < least {
		c.broken = true
	}
	return c.text[from:c.at]
}

// end tells whether the text was of its form to its last byte.
func (c *cursor) end() error {
	if c.broken || c.at < len(c.text) {
		return refusal(c.at, api.ErrValueForm)
	}
	return nil
}

func isDigit(b byte) bool { return b >= '0' && b <= '9' }

// worth tells what digits are worth: 18 of them at most.
func worth(digits string) int64 {
	n := int64(0)
	for _, r := range digits {
		n = 10*n + int64(r-'0')
	}
	return n
}
