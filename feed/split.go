package feed

import (
	"strings"

	"modality/api"
)

const (
	segmentEnd = '\r'
	lineFeed   = "\n" // at a segment's beginning it is let go
	nameBytes  = 3    // of a segment's name
	headBytes  = nameBytes + allMarks + 1
)

// Split cuts a message into segments, and each into fields (P11.2).
func Split(text string) ([][]string, error) {
	segments, f := split(text)
	if f.found() {
		return nil, refusal(f.at, f.reason)
	}
	return segments, nil
}

func split(text string) ([][]string, flaw) {
	marks, ok := marksOf(text)
	if !ok {
		return nil, flaw{0, api.ErrFeedHead}
	}
	var segments [][]string
	for _, s := range cut(text, segmentEnd) {
		s = strings.TrimPrefix(s, lineFeed)
		switch {
		case s == "":
			continue
		case !isSegment(s, marks[markField]):
			return nil, flaw{len(segments), api.ErrFeedSegment}
		case len(segments) == 0:
			segments = append(segments, headFields(s, marks))
		default:
			segments = append(segments, cut(s, marks[markField]))
		}
	}
	return segments, flaw{}
}

// marksOf gives the marks that a message's header names.
func marksOf(text string) (marks string, ok bool) {
	text = strings.TrimPrefix(text, lineFeed)
	if len(text) < headBytes || text[:nameBytes] != nameMSH {
		return "", false
	}
	marks = text[nameBytes : nameBytes+allMarks]
	return marks, areMarks(marks) && text[headBytes-1] == marks[markField]
}

// isSegment tells whether a text has a name, and a field mark behind it if anything.
func isSegment(s string, mark byte) bool {
	return len(s) >= nameBytes && (len(s) == nameBytes || s[nameBytes] == mark)
}

// headFields cuts the header, whose marks are fields of their own.
func headFields(s, marks string) []string {
	fields := []string{nameMSH, marks[:markComponent], marks[markComponent:]}
	return append(fields, cut(s[headBytes:], marks[markField])...)
}
