package feed

import (
	"strconv"
	"strings"

	"modality/api"
)

// The places of the marks in a text of all five.
const (
	markField = iota
	markComponent
	markRepetition
	markEscape
	markSub
	allMarks
)

// escapes are the letters that stand for the marks, by their places.
const escapes = "FSRET"

// ourMarks are the marks of what is written here.
const ourMarks = "|^~\\&"

// Plain reads a piece of a field: its escapes (P11.3).
func Plain(marks, piece string) (string, error) {
	if !areMarks(marks) {
		return "", refusal(0, api.ErrFeedHead)
	}
	text, at, ok := plain(marks, piece)
	if !ok {
		return "", refusal(at, api.ErrFeedEscape)
	}
	return text, nil
}

// areMarks tells whether a text is five marks as they may be.
func areMarks(marks string) bool {
	if len(marks) != allMarks {
		return false
	}
	for i, r := range marks {
		if !isMark(r) || strings.ContainsRune(marks[:i], r) {
			return false
		}
	}
	return true
}

func isMark(r rune) bool {
	switch {
	case r < 0x21 || r > 0x7E, '0' <= r && r <= '9', 'A' <= r && r <= 'Z', 'a' <= r && r <= 'z':
		return false
	}
	return true
}

// plain reads a piece; else it tells where the escape mark stands that begins no escape.
func plain(marks, piece string) (text string, at int, ok bool) {
	escape := marks[markEscape]
	var read strings.Builder
	next := 0 // all ahead of it has been read
	for i, r := range piece {
		if i < next || r != rune(escape) {
			continue
		}
		said, _, ended := strings.Cut(piece[i+1:], string(rune(escape)))
		meant, known := meaning(marks, said)
		if !ended || !known {
			return "", i, false
		}
		read.WriteString(piece[next:i])
		read.WriteString(meant)
		next = i + len(said) + 2
	}
	read.WriteString(piece[next:])
	return read.String(), 0, true
}

// meaning tells what an escape stands for, by what it says between its marks.
func meaning(marks, said string) (string, bool) {
	if hex, ok := strings.CutPrefix(said, "X"); ok {
		return hexBytes(hex)
	}
	place := strings.Index(escapes, said)
	if len(said) != 1 || place < 0 {
		return "", false
	}
	return marks[place : place+1], true
}

// hexBytes reads pairs of hexadecimal digits, one pair at least.
func hexBytes(hex string) (string, bool) {
	if hex == "" || len(hex)%2 != 0 {
		return "", false
	}
	b := make([]byte, 0, len(hex)/2)
	for i := 0; i < len(hex); i += 2 {
		n, err := strconv.ParseUint(hex[i:i+2], 16, 8)
		if err != nil {
			return "", false
		}
		b = append(b, byte(n))
	}
	return string(b), true
}

// escaped writes a text with its marks as escapes.
func escaped(text string) string {
	var b strings.Builder
	next := 0 // all ahead of it has been written; texts need not be runes, so they are written as they stand
	for i, r := range text {
		place := strings.IndexRune(ourMarks, r)
		if place < 0 {
			continue
		}
		b.WriteString(text[next:i])
		b.WriteByte(ourMarks[markEscape])
		b.WriteByte(escapes[place])
		b.WriteByte(ourMarks[markEscape])
		next = i + 1
	}
	b.WriteString(text[next:])
	return b.String()
}

// cut gives the pieces of a text between marks.
func cut(text string, mark byte) []string {
	var pieces []string
	from := 0
	for i, r := range text {
		if r == rune(mark) {
			pieces = append(pieces, text[from:i])
			from = i + 1
		}
	}
	return append(pieces, text[from:])
}

// pieceOf gives one piece of a text between marks, by its number from 0 on; "", if there are not so many.
func pieceOf(text string, mark byte, number int) string {
	from := 0
	for i, r := range text {
		if r != rune(mark) {
			continue
		}
		if number == 0 {
			return text[from:i]
		}
		number--
		from = i + 1
	}
	if number > 0 {
		return ""
	}
	return text[from:]
}
