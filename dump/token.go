package dump

import (
	"strings"

	"modality/api"
	"modality/dict"
)

// kind is what a token is.
type kind int

const (
	noToken kind = iota // bytes that are none
	textEnd             // nothing is left
	tagToken
	wordToken
	hexToken
	numberToken
	quotedToken
	markToken // { or } or \
)

// itemWord stands ahead of an item's braces.
const itemWord = "item"

// token is a token as it stands in the text.
type token struct {
	kind kind
	at   int
	text string
}

// isMark tells whether a token is this mark: no other kind's text begins with one.
func (t token) isMark(mark string) bool { return t.text == mark }

// end tells the place behind a token.
func (t token) end() int { return t.at + len(t.text) }

// checkTokens refuses a text that has something else than tokens: that is told ahead of what the tokens say.
func checkTokens(text string) error {
	t := cut(text, 0)
	for t.kind != textEnd {
		if t.kind == noToken {
			return refusal(t.at, api.ErrDumpToken)
		}
		t = cut(text, t.end())
	}
	return nil
}

// cut tells the first token from a place on.
func cut(text string, at int) token {
blanks:
	for at < len(text) {
		switch text[at] {
		case '\t', '\n', '\r', ' ':
			at++
		case '#':
			at += lineSize(text[at:])
		default:
			break blanks
		}
	}
	if at == len(text) {
		return token{kind: textEnd, at: at}
	}
	k, size := measure(text[at:])
	if size == 0 {
		return token{kind: noToken, at: at}
	}
	return token{kind: k, at: at, text: text[at : at+size]}
}

// lineSize tells how many bytes stand ahead of the line's end.
func lineSize(text string) int {
	if i := strings.IndexByte(text, '\n'); i >= 0 {
		return i
	}
	return len(text)
}

// measure tells what a text begins with, and how many bytes of it belong to that: none, if it is no token.
func measure(text string) (kind, int) {
	switch c := text[0]; {
	case isLetter(c):
		return measureWord(text)
	case isDigit(c) || c == '-':
		return numberToken, span(text, isNumberByte)
	case c == '(':
		return tagToken, tagSize(text)
	case c == '"':
		_, size := cutQuoted(text)
		return quotedToken, size
	case c == '{' || c == '}' || c == '\\':
		return markToken, 1
	}
	return noToken, 0
}

func measureWord(text string) (kind, int) {
	size := span(text, isWordByte)
	if text[0] == 'x' && 1+span(text[1:size], isHexDigit) == size {
		return hexToken, size
	}
	return wordToken, size
}

// tagSize tells how many bytes the tag has that a text begins with.
func tagSize(text string) int {
	const size = len("(gggg,eeee)")
	if len(text) < size {
		return 0
	}
	if _, err := dict.ParseTag(text[:size]); err != nil {
		return 0
	}
	return size
}

// span tells how many bytes of one sort a text begins with.
func span(text string, isOne func(byte) bool) int {
	size := 0
	for size < len(text) && isOne(text[size]) {
		size++
	}
	return size
}

func isDigit(c byte) bool { return '0' <= c && c <= '9' }

func isLetter(c byte) bool { return 'A' <= c && c <= 'Z' || 'a' <= c && c <= 'z' }

func isWordByte(c byte) bool { return isLetter(c) || isDigit(c) }

func isNumberByte(c byte) bool { return isDigit(c) || c == '.' || c == 'e' || c == '+' || c == '-' }

func isHexDigit(c byte) bool {
	return isDigit(c) || 'A' <= c && c <= 'F' || 'a' <= c && c <= 'f'
}
