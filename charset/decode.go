package charset

import (
	"strings"
	"unicode/utf8"

	"modality/api"
)

const escape = 0x1B // the first byte of every escape

// Decode reads bytes as a text (P4.4).
func (s *Set) Decode(kind int, raw []byte) (string, error) {
	if err := s.admits(kind, len(raw)); err != nil {
		return "", err
	}
	text, err := s.read(kinds[kind], string(raw))
	if err != nil {
		return "", err
	}
	if err := fits(len(text)); err != nil {
		return "", err
	}
	return text, nil
}

func (s *Set) read(k kindRow, raw string) (string, error) {
	var text []byte
	holds := s.list[0]
	for at := 0; at < len(raw); {
		if s.extended && raw[at] == escape {
			x, ok := s.turned(holds, raw[at:])
			if !ok {
				return "", refusal(at, api.ErrCharEscape)
			}
			holds = x
			at += len(spellings[ascii].escape) // all have that many bytes
			continue
		}
		r, size := s.head(k, holds, raw[at:])
		if size == 0 {
			return "", refusal(at, api.ErrCharByte)
		}
		text = utf8.AppendRune(text, r)
		at += size
		if k.ends(r) {
			holds = s.list[0]
		}
	}
	return string(text), nil
}

// turned tells which repertoire holds behind the escape that raw begins with; not ok: it is none of this set's.
func (s *Set) turned(holds repertoire, raw string) (repertoire, bool) {
	if strings.HasPrefix(raw, spellings[ascii].escape) {
		return holds, true
	}
	for _, x := range s.list {
		if strings.HasPrefix(raw, x.escape) {
			return x, true
		}
	}
	return holds, false
}

// head reads the rune that raw begins with; it has no bytes if these stand for nothing.
func (s *Set) head(k kindRow, holds repertoire, raw string) (r rune, size int) {
	b := raw[0]
	switch {
	case k.isPlain(rune(b)):
		return rune(b), 1
	case s.isUniversal():
		return universalHead(raw)
	case b >= high && holds.runeOf(b) != 0:
		return holds.runeOf(b), 1
	}
	return 0, 0
}

func universalHead(raw string) (r rune, size int) {
	r, size = utf8.DecodeRuneInString(raw)
	if size < 2 || !isWide(r) { // a single byte is a control byte, or no rune at all
		return 0, 0
	}
	return r, size
}
