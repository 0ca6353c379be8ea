package charset

import (
	"strings"
	"unicode/utf8"

	"modality/api"
)

// Encode writes a text as bytes (P4.5).
func (s *Set) Encode(kind int, text string) ([]byte, error) {
	if err := s.admits(kind, len(text)); err != nil {
		return nil, err
	}
	raw, err := s.write(kinds[kind], text)
	if err != nil {
		return nil, err
	}
	if err := fits(len(raw)); err != nil {
		return nil, err
	}
	return raw, nil
}

func (s *Set) write(k kindRow, text string) ([]byte, error) {
	var raw []byte
	holds := s.list[0]
	for at, r := range text {
		if k.isPlain(r) {
			raw = append(raw, byte(r))
			if k.ends(r) {
				holds = s.list[0]
			}
			continue
		}
		if !s.Has(r) || isBroken(text[at:], r) {
			return nil, refusal(at, api.ErrCharRune)
		}
		raw, holds = s.put(raw, holds, r)
	}
	return raw, nil
}

// isBroken tells whether a rune that was read at the beginning of a text only stands for bytes that are none.
func isBroken(text string, r rune) bool {
	return r == utf8.RuneError && !strings.HasPrefix(text, string(utf8.RuneError))
}

// put writes a rune that the set has behind raw, and tells which repertoire holds then.
func (s *Set) put(raw []byte, holds repertoire, r rune) ([]byte, repertoire) {
	if s.isUniversal() {
		return utf8.AppendRune(raw, r), holds
	}
	if b := holds.byteOf(r); b != 0 {
		return append(raw, b), holds
	}
	x, b := s.first(r)
	return append(append(raw, x.escape...), b), x
}
