package charset_test

import (
	"strings"
	"testing"

	"modality/api"
)

func TestDecodeExamples(t *testing.T) {
	wantText(t, set(t, "ISO_IR 100"), api.CharName, "M\xFCller^A", "Müller^A")
	s := set(t, "", "ISO 2022 IR 144")
	wantUnread(t, s, api.CharName, "\x1B-L\xBB^\xBB", api.ErrCharByte, 5)
	wantText(t, s, api.CharName, "\x1B-L\xBB^\x1B-L\xBB", "Л^Л")
	s = set(t, " ISO_IR 192 ")
	wantText(t, s, api.CharWord, "\xC3\xA9", "é")
	wantUnread(t, s, api.CharWord, "\xC0\x80", api.ErrCharByte, 0)
	wantUnread(t, s, api.CharWord, "\xC2\x85", api.ErrCharByte, 0)
	s = set(t, "ISO 2022 IR 126")
	wantUnread(t, s, api.CharText, "A\xD2", api.ErrCharByte, 1)
	wantUnread(t, s, api.CharText, "\x1B-A", api.ErrCharEscape, 0)
	wantText(t, s, api.CharText, "\x1B(B", "")
}

// TestBytesBelow looks at every byte below 80 in every kind of text and kind of set.
func TestBytesBelow(t *testing.T) {
	controls := map[int]string{api.CharText: "\t\n\f\r"}
	for _, terms := range [][]string{nil, {"ISO_IR 100"}, {"ISO_IR 192"}, {"ISO 2022 IR 6"}, extended} {
		s := set(t, terms...)
		for _, kind := range allKinds {
			for b := 0; b < 0x80; b++ {
				raw := "a" + string(rune(b))
				switch {
				case b >= 0x20 && b <= 0x7E || strings.Contains(controls[kind], raw[1:]):
					wantText(t, s, kind, raw, raw)
					wantBytes(t, s, kind, raw, raw)
					continue
				case b == 0x1B && strings.HasPrefix(s.Terms()[0], "ISO 2022"):
					wantUnread(t, s, kind, raw, api.ErrCharEscape, 1)
				default:
					wantUnread(t, s, kind, raw, api.ErrCharByte, 1)
				}
				wantUnwritten(t, s, kind, raw, api.ErrCharRune, 1)
			}
		}
	}
}

// TestEnders: behind what ends a piece the first repertoire holds again, behind everything else the last one.
func TestEnders(t *testing.T) {
	enders := map[int]string{api.CharText: "\t\n\f\r", api.CharWord: `\`, api.CharName: `\^=`}
	s := set(t, "ISO 2022 IR 100", "ISO 2022 IR 144")
	for _, kind := range allKinds {
		for b := 1; b < 0x7F; b++ {
			c := string(rune(b))
			if _, err := s.Decode(kind, []byte(c)); err != nil {
				continue
			}
			if strings.Contains(enders[kind], c) {
				wantText(t, s, kind, "\x1B-L\xBB"+c+"\xE9", "Л"+c+"é")
				wantBytes(t, s, kind, "Л"+c+"é", "\x1B-L\xBB"+c+"\xE9")
				wantBytes(t, s, kind, "Л"+c+"Л", "\x1B-L\xBB"+c+"\x1B-L\xBB")
			} else {
				wantText(t, s, kind, "\x1B-L\xBB"+c+"\xE9", "Л"+c+"щ")
				wantBytes(t, s, kind, "Л"+c+"é", "\x1B-L\xBB"+c+"\x1B-A\xE9")
				wantBytes(t, s, kind, "Л"+c+"Л", "\x1B-L\xBB"+c+"\xBB")
			}
		}
	}
}

func TestEscapes(t *testing.T) {
	escapes := []string{"\x1B(B", "\x1B-A", "\x1B-B", "\x1B-F", "\x1B-L", "\x1B-M"}
	tables := meanings()
	for i := range extended {
		for j := range extended {
			s := set(t, extended[i])
			if i != j {
				s = set(t, extended[i], extended[j])
			}
			for k, e := range escapes {
				holds := numbers[i]
				switch {
				case k == 0:
				case k == i || k == j:
					holds = numbers[k]
				default:
					wantUnread(t, s, api.CharWord, "a"+e+"a", api.ErrCharEscape, 1)
					continue
				}
				wantText(t, s, api.CharWord, "a"+e, "a")
				wantText(t, s, api.CharWord, e+e+"a", "a")
				if r, ok := tables[holds][0xE6]; ok {
					wantText(t, s, api.CharWord, e+"\xE6", string(r))
				} else {
					wantUnread(t, s, api.CharWord, e+"\xE6", api.ErrCharByte, 3)
				}
			}
		}
	}
}

// TestEscapeOfASCII: it changes nothing, also where another repertoire holds, and whether it was named or not.
func TestEscapeOfASCII(t *testing.T) {
	for _, first := range []string{"", "ISO 2022 IR 6", "ISO 2022 IR 100"} {
		s := set(t, first, "ISO 2022 IR 144")
		wantText(t, s, api.CharWord, "\x1B-L\xBB\x1B(Ba\xBB", "ЛaЛ")
	}
	s := set(t, "ISO 2022 IR 144", "ISO 2022 IR 6")
	wantText(t, s, api.CharWord, "\xBB\x1B(B\xBB", "ЛЛ")
	for _, term := range append(single, "ISO_IR 192") {
		wantUnread(t, set(t, term), api.CharWord, "a\x1B(B", api.ErrCharByte, 1)
		wantUnread(t, set(t, term), api.CharWord, "\x1B-A", api.ErrCharByte, 0)
	}
}

func TestNoEscapes(t *testing.T) {
	s := set(t, extended...)
	for _, raw := range []string{"\x1B", "\x1B-", "\x1B(", "\x1B-C", "\x1B(A", "\x1B-\x00", "\x1B\x1B-A", "\x1B.A", "\x1B)B", "\x1B -A", "\x1B$B"} {
		for _, kind := range allKinds {
			wantUnread(t, s, kind, "ab"+raw, api.ErrCharEscape, 2)
			if len(raw) < 3 {
				continue
			}
			wantUnread(t, s, kind, "ab"+raw+"\x80", api.ErrCharEscape, 2)
		}
	}
	wantUnread(t, s, api.CharWord, "\x80\x1B", api.ErrCharByte, 0)
	wantUnread(t, s, api.CharWord, "\x1B-\x1B-A", api.ErrCharEscape, 0)
}

// TestUniversal holds the runes of ISO_IR 192 against its rule: all of one to three bytes, and those of four at the edges.
func TestUniversal(t *testing.T) {
	s := set(t, "ISO_IR 192")
	edges := []byte{0x00, 0x20, 0x41, 0x7F, 0x80, 0x82, 0x85, 0x8F, 0x90, 0x9F, 0xA0, 0xAC, 0xBD, 0xBF, 0xC0, 0xC2, 0xE2, 0xF0, 0xFF}
	var all []byte
	for b := 0; b < 0x100; b++ {
		all = append(all, byte(b))
	}
	for _, a := range all {
		holdUniversal(t, s.Decode, a)
		for _, b := range all {
			holdUniversal(t, s.Decode, a, b)
			for _, c := range edges {
				holdUniversal(t, s.Decode, a, b, c)
				for _, d := range edges {
					if a >= 0xE0 {
						holdUniversal(t, s.Decode, a, b, c, d)
					}
				}
			}
		}
	}
}

func holdUniversal(t *testing.T, decode func(kind int, raw []byte) (string, error), raw ...byte) {
	t.Helper()
	at := 0
	for at < len(raw) {
		n := modelRune(raw[at:])
		if n == 0 {
			break
		}
		at += n
	}
	text, err := decode(api.CharName, raw)
	if at == len(raw) && (err != nil || text != string(raw)) || at < len(raw) && (!is(err, api.ErrCharByte, at) || text != "") {
		t.Fatalf("P4.4: % X as UTF-8: %q, %v; want %d bytes of %d", raw, text, err, at, len(raw))
	}
}

// modelRune tells how many bytes the rune has that these begin with, 0 if it is none, by the arithmetic of UTF-8.
func modelRune(raw []byte) int {
	b := int(raw[0])
	if b < 0x80 {
		return map[bool]int{true: 1}[b >= 0x20 && b != 0x7F]
	}
	size, rest := 0, 0
	switch {
	case b&0xE0 == 0xC0:
		size, rest = 2, b&0x1F
	case b&0xF0 == 0xE0:
		size, rest = 3, b&0x0F
	case b&0xF8 == 0xF0:
		size, rest = 4, b&0x07
	default:
		return 0
	}
	if len(raw) < size {
		return 0
	}
	for _, c := range raw[1:size] {
		if c&0xC0 != 0x80 {
			return 0
		}
		rest = rest<<6 | int(c&0x3F)
	}
	least := []int{0, 0, 0xA0, 0x800, 0x10000}
	if rest < least[size] || rest > 0x10FFFF || rest >= 0xD800 && rest <= 0xDFFF {
		return 0
	}
	return size
}

// TestReplacement: U+FFFD is a rune like others, where its own bytes stand.
func TestReplacement(t *testing.T) {
	s := set(t, "ISO_IR 192")
	wantText(t, s, api.CharText, "a\xEF\xBF\xBDb", "a\uFFFDb")
	wantBytes(t, s, api.CharText, "a\uFFFDb", "a\xEF\xBF\xBDb")
	wantUnwritten(t, s, api.CharText, "\uFFFD\xEF\xBF", api.ErrCharRune, 3)
	wantUnwritten(t, set(t, "ISO_IR 100"), api.CharText, "\uFFFD", api.ErrCharRune, 0)
}

func TestKinds(t *testing.T) {
	for _, s := range []struct{ terms []string }{{nil}, {[]string{"ISO_IR 192"}}, {extended}} {
		for _, kind := range []int{-1, 3, 4, -1 << 63, 1<<63 - 1, 256} {
			for _, text := range []string{"", "a", "\xFF", filled(api.MaxCharBytes+1, "")} {
				wantUnread(t, set(t, s.terms...), kind, text, api.ErrCharKind, 0)
				wantUnwritten(t, set(t, s.terms...), kind, text, api.ErrCharKind, 0)
			}
		}
	}
}

func TestDecodeLimits(t *testing.T) {
	const most = api.MaxCharBytes
	s := set(t, "ISO_IR 100")
	for _, kind := range allKinds {
		wantText(t, s, kind, filled(most, ""), filled(most, ""))
		wantUnread(t, s, kind, filled(most+1, ""), api.ErrCharLong, most)
		wantUnread(t, s, kind, "\x00"+filled(most, ""), api.ErrCharLong, most)
		wantText(t, s, kind, filled(most-1, "\xE9"), filled(most, "é"))
		wantUnread(t, s, kind, filled(most, "\xE9"), api.ErrCharLong, most)
		wantUnread(t, s, kind, strings.Repeat("\xE9", most/2+1), api.ErrCharLong, most)
		wantText(t, s, kind, strings.Repeat("\xE9", most/2), strings.Repeat("é", most/2))
		// What stands for nothing goes ahead of a text that is too long.
		wantUnread(t, s, kind, filled(most, "\xE9\x80"), api.ErrCharByte, most-1)
	}
	s = set(t, "ISO 2022 IR 100", "ISO 2022 IR 101")
	escapes := strings.Repeat("\x1B-B", most/3)
	wantText(t, s, api.CharWord, escapes+filled(most%3, ""), filled(most%3, ""))
	wantUnread(t, s, api.CharWord, filled(most, "\xE9\x1B-"), api.ErrCharEscape, most-2)
	wantUnread(t, set(t, "ISO_IR 126"), api.CharWord, strings.Repeat("\xAF", most/3+1), api.ErrCharLong, most)
	wantText(t, set(t, "ISO_IR 126"), api.CharWord, strings.Repeat("\xAF", most/3), strings.Repeat("\u2015", most/3))
	s = set(t, "ISO_IR 192")
	wantText(t, s, api.CharWord, filled(most, "é"), filled(most, "é"))
	wantUnread(t, s, api.CharWord, filled(most, "\xC3"), api.ErrCharByte, most-1)
}
