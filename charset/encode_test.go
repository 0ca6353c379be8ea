package charset_test

import (
	"strings"
	"testing"

	"modality/api"
)

func TestEncodeExamples(t *testing.T) {
	wantBytes(t, set(t, "ISO_IR 100"), api.CharName, "Müller^A", "M\xFCller^A")
	s := set(t, "ISO 2022 IR 100", "ISO 2022 IR 101")
	wantBytes(t, s, api.CharWord, `é\ł\é`, "\xE9\\\x1B-B\xB3\\\xE9")
	wantBytes(t, s, api.CharWord, "łé", "\x1B-B\xB3\xE9")
	wantBytes(t, s, api.CharText, "ł\né", "\x1B-B\xB3\n\xE9")
	s = set(t)
	wantUnwritten(t, s, api.CharWord, "é", api.ErrCharRune, 0)
	wantUnwritten(t, s, api.CharWord, "a\tb", api.ErrCharRune, 1)
	wantBytes(t, s, api.CharText, "a\tb", "a\tb")
}

// TestChoice: what holds goes ahead of the terms' order, that goes ahead of the table's.
func TestChoice(t *testing.T) {
	s := set(t, "ISO 2022 IR 148", "ISO 2022 IR 101", "ISO 2022 IR 144", "ISO 2022 IR 126", "ISO 2022 IR 100")
	for _, x := range []struct{ text, want string }{
		{"é", "\xE9"},
		{"Ğ", "\xD0"},
		{"łé", "\x1B-B\xB3\xE9"},
		{"łã", "\x1B-B\xB3\x1B-M\xE3"},      // in 148 and 100: the first of the terms
		{"łþ", "\x1B-B\xB3\x1B-A\xFE"},      // in 100 alone
		{"łþã", "\x1B-B\xB3\x1B-A\xFE\xE3"}, // 100 holds and has it
		{"łþłãþ", "\x1B-B\xB3\x1B-A\xFE\x1B-B\xB3\x1B-M\xE3\x1B-A\xFE"},
		{"\u00A0Л\u00A0", "\xA0\x1B-L\xBB\xA0"},
		{"Л§", "\x1B-L\xBB\xFD"},
		{"§Л§Α§", "\xA7\x1B-L\xBB\xFD\x1B-F\xC1\xA7"},
		{"ΛaΛ", "\x1B-F\xCBa\xCB"},
		{`Л\§\Л`, "\x1B-L\xBB\\\xA7\\\x1B-L\xBB"},
		{"Л^§=Л", "\x1B-L\xBB^\xFD=\xBB"},
	} {
		wantBytes(t, s, api.CharWord, x.text, x.want)
		wantText(t, s, api.CharWord, x.want, x.text)
	}
	wantBytes(t, s, api.CharName, "Л^§=Л", "\x1B-L\xBB^\xA7=\x1B-L\xBB")
	wantBytes(t, set(t, "", "ISO 2022 IR 101", "ISO 2022 IR 100"), api.CharWord, "é", "\x1B-B\xE9")
	wantBytes(t, set(t, "", "ISO 2022 IR 100", "ISO 2022 IR 101"), api.CharWord, "é", "\x1B-A\xE9")
}

func TestUnwritten(t *testing.T) {
	latin, all, ascii := set(t, "ISO_IR 100"), set(t, "ISO_IR 192"), set(t, "ISO 2022 IR 6")
	for _, kind := range allKinds {
		wantUnwritten(t, latin, kind, "éł", api.ErrCharRune, 2)
		wantUnwritten(t, latin, kind, "é\xE9", api.ErrCharRune, 2)
		wantUnwritten(t, latin, kind, "a\xC3", api.ErrCharRune, 1)
		wantUnwritten(t, latin, kind, "a\xC3\xC3\xA9", api.ErrCharRune, 1)
		wantUnwritten(t, latin, kind, "\u0080", api.ErrCharRune, 0)
		wantUnwritten(t, latin, kind, "é\u009F", api.ErrCharRune, 2)
		wantUnwritten(t, latin, kind, "a\x1B(B", api.ErrCharRune, 1)
		wantUnwritten(t, ascii, kind, "a\x1B(B", api.ErrCharRune, 1)
		wantUnwritten(t, ascii, kind, "ab\u00A0", api.ErrCharRune, 2)
		wantUnwritten(t, all, kind, "é\x7F", api.ErrCharRune, 2)
		wantUnwritten(t, all, kind, "€\u0080", api.ErrCharRune, 3)
		wantUnwritten(t, all, kind, "€\u009F", api.ErrCharRune, 3)
		wantUnwritten(t, all, kind, "\xED\xA0\x80", api.ErrCharRune, 0)
		wantUnwritten(t, all, kind, "a\xF4\x90\x80\x80", api.ErrCharRune, 1)
		wantUnwritten(t, all, kind, "\U0010FFFF\xC0\x80", api.ErrCharRune, 4)
		wantUnwritten(t, all, kind, "\uFFFD\xFF", api.ErrCharRune, 3)
		wantBytes(t, all, kind, "\u00A0\uD7FF\uE000\U0010FFFF", "\u00A0\uD7FF\uE000\U0010FFFF")
	}
	wantUnwritten(t, latin, api.CharText, "a\x00", api.ErrCharRune, 1)
	wantUnwritten(t, latin, api.CharText, "a\v", api.ErrCharRune, 1)
	wantUnwritten(t, all, api.CharName, "a\n", api.ErrCharRune, 1)
}

func TestEncodeLimits(t *testing.T) {
	const most = api.MaxCharBytes
	s := set(t, "ISO_IR 100")
	for _, kind := range allKinds {
		wantBytes(t, s, kind, filled(most, ""), filled(most, ""))
		wantBytes(t, s, kind, filled(most, "é"), filled(most-1, "\xE9"))
		wantUnwritten(t, s, kind, filled(most+1, ""), api.ErrCharLong, most)
		wantUnwritten(t, s, kind, filled(most+1, "é"), api.ErrCharLong, most)
		wantUnwritten(t, s, kind, filled(most+1, "\xFF"), api.ErrCharLong, most)
		wantUnwritten(t, s, kind, filled(most, "\xFF"), api.ErrCharRune, most-1)
	}
	s = set(t, "ISO 2022 IR 100", "ISO 2022 IR 101")
	wantBytes(t, s, api.CharWord, filled(most-2, "ł"), filled(most, "\x1B-B\xB3"))
	wantUnwritten(t, s, api.CharWord, filled(most-1, "ł"), api.ErrCharLong, most)
	wantUnwritten(t, s, api.CharWord, "ł"+filled(most-2, "\xFF"), api.ErrCharRune, most-1)
	wantUnwritten(t, s, api.CharWord, strings.Repeat(`ł\`, most/3), api.ErrCharLong, most)
	s = set(t, "ISO_IR 192")
	wantBytes(t, s, api.CharWord, filled(most, "é"), filled(most, "é"))
	wantUnwritten(t, s, api.CharWord, filled(most+1, "é"), api.ErrCharLong, most)
}

// TestEmpty: nil and empty mean the same, and a text without a byte is nil.
func TestEmpty(t *testing.T) {
	for _, terms := range [][]string{nil, {"ISO_IR 192"}, extended} {
		s := set(t, terms...)
		for _, kind := range allKinds {
			if raw, err := s.Encode(kind, ""); raw != nil || err != nil {
				t.Errorf("P4.5: %q: Encode of nothing: %#v, %v", terms, raw, err)
			}
			for _, raw := range [][]byte{nil, {}} {
				if text, err := s.Decode(kind, raw); text != "" || err != nil {
					t.Errorf("P4.4: %q: Decode of nothing: %q, %v", terms, text, err)
				}
			}
		}
	}
}
