package charset_test

import (
	"math/rand"
	"slices"
	"strings"
	"testing"
	"unicode/utf8"

	"modality/api"
	"modality/charset"
)

// model is a set told once more, from the document's tables.
type model struct {
	set      *charset.Set
	numbers  []string
	extended bool
	tables   map[string]meaning
}

var (
	modelEscapes = map[string]string{"6": "\x1B(B", "100": "\x1B-A", "101": "\x1B-B", "126": "\x1B-F", "144": "\x1B-L", "148": "\x1B-M"}
	modelEnders  = map[int]string{api.CharText: "\t\n\f\r", api.CharWord: `\`, api.CharName: `\^=`}
)

func newModel(t *testing.T, tables map[string]meaning, terms ...string) model {
	s := set(t, terms...)
	m := model{set: s, tables: tables}
	for _, term := range s.Terms() {
		m.numbers = append(m.numbers, term[strings.LastIndex(term, " ")+1:])
		m.extended = strings.HasPrefix(term, "ISO 2022")
	}
	return m
}

func plain(kind int, b byte) bool {
	return b >= 0x20 && b <= 0x7E || kind == api.CharText && strings.IndexByte("\t\n\f\r", b) >= 0
}

// decode is P4.4 for texts that are not long.
func (m model) decode(kind int, raw string) (text string, at int, code api.Errno) {
	holds := m.numbers[0]
	for at < len(raw) {
		b, rest := raw[at], raw[at:]
		switch {
		case m.extended && b == 0x1B:
			if len(rest) < 3 {
				return "", at, api.ErrCharEscape
			}
			if rest[:3] != modelEscapes["6"] {
				to := slices.IndexFunc(m.numbers, func(n string) bool { return modelEscapes[n] == rest[:3] })
				if to < 0 {
					return "", at, api.ErrCharEscape
				}
				holds = m.numbers[to]
			}
			at += 3
			continue
		case plain(kind, b):
			text += rest[:1]
			if strings.IndexByte(modelEnders[kind], b) >= 0 {
				holds = m.numbers[0]
			}
		case b < 0x80:
			return "", at, api.ErrCharByte
		case holds == "192":
			n := modelRune([]byte(rest))
			if n == 0 {
				return "", at, api.ErrCharByte
			}
			text += rest[:n]
			at += n - 1
		default:
			r, ok := m.tables[holds][b]
			if !ok {
				return "", at, api.ErrCharByte
			}
			text += string(r)
		}
		at++
	}
	return text, 0, api.OK
}

// encode is P4.5 for texts that are not long.
func (m model) encode(kind int, text string) (raw string, at int, code api.Errno) {
	holds := m.numbers[0]
	for at < len(text) {
		r, size := utf8.DecodeRuneInString(text[at:])
		switch {
		case r < 0x80 && plain(kind, byte(r)):
			raw += text[at : at+1]
			if strings.ContainsRune(modelEnders[kind], r) {
				holds = m.numbers[0]
			}
		case r < 0x80 || r == utf8.RuneError && size == 1:
			return "", at, api.ErrCharRune
		case holds == "192":
			if r < 0xA0 {
				return "", at, api.ErrCharRune
			}
			raw += text[at : at+size]
		default:
			found := false
			for _, n := range append([]string{holds}, m.numbers...) {
				if b, ok := m.byteOf(n, r); ok {
					if n != holds {
						raw += modelEscapes[n]
					}
					raw, holds, found = raw+string([]byte{b}), n, true
					break
				}
			}
			if !found {
				return "", at, api.ErrCharRune
			}
		}
		at += size
	}
	return raw, 0, api.OK
}

func (m model) byteOf(number string, r rune) (byte, bool) {
	for b, x := range m.tables[number] {
		if x == r {
			return b, true
		}
	}
	return 0, false
}

// models gives sets of every make: each repertoire alone, named either way, and many lists of several.
func models(t *testing.T) []model {
	tables := meanings()
	var all []model
	for _, term := range append(append([]string{""}, single...), extended...) {
		all = append(all, newModel(t, tables, term))
	}
	all = append(all, newModel(t, tables, "ISO_IR 192"), newModel(t, tables, extended...))
	rng := rand.New(rand.NewSource(4))
	for range 60 {
		terms := slices.Clone(extended)
		rng.Shuffle(len(terms), func(i, j int) { terms[i], terms[j] = terms[j], terms[i] })
		terms = terms[:2+rng.Intn(5)]
		if terms[0] == "ISO 2022 IR 6" && rng.Intn(2) == 0 {
			terms[0] = ""
		}
		all = append(all, newModel(t, tables, terms...))
	}
	return all
}

var pieces = []string{
	"a", "Z", " ", "~", "-", "(", "A", "B", "L", `\`, "^", "=", "\t", "\n", "\f", "\r", "\x00", "\x1B", "\v", "\x7F", "\x80", "\x9F",
	"\xA0", "\xA7", "\xAD", "\xD2", "\xE9", "\xF0", "\xFD", "\xFF", "\xB3", "\xBB", "\xC3\xA9", "\xC2\x85", "\xE2\x80\x95", "\xF0\x9F\x98\x80",
	"\x1B(B", "\x1B-A", "\x1B-B", "\x1B-F", "\x1B-L", "\x1B-M", "\x1B-B\xB3", "\x1B-L\xBB", "\x1B-F\xE1",
	"é", "ł", "Л", "α", "ğ", "þ", "ã", "§", "\u00A0", "\u2015", "\uFFFD", "\U0010FFFF", "\uD7FF",
}

func mixed(rng *rand.Rand, most int) string {
	text := ""
	for range rng.Intn(most + 1) {
		text += pieces[rng.Intn(len(pieces))]
	}
	return text
}

// readable gives bytes of which most can be read in the set.
func (m model) readable(rng *rand.Rand, kind, most int) string {
	raw := ""
	for range 40 {
		next := raw + pieces[rng.Intn(len(pieces))]
		if _, _, code := m.decode(kind, next); code == api.OK && len(next) <= most {
			raw = next
		}
	}
	return raw
}

func TestModel(t *testing.T) {
	rng := rand.New(rand.NewSource(44))
	for _, m := range models(t) {
		for range 400 {
			kind := rng.Intn(3)
			holdDecode(t, m, kind, mixed(rng, 6))
			holdEncode(t, m, kind, mixed(rng, 6))
			raw := m.readable(rng, kind, 30)
			holdDecode(t, m, kind, raw)
			text, _, _ := m.decode(kind, raw)
			holdEncode(t, m, kind, text)
			holdEncode(t, m, kind, text+mixed(rng, 1))
		}
	}
}

func holdDecode(t *testing.T, m model, kind int, raw string) {
	t.Helper()
	want, at, code := m.decode(kind, raw)
	if text, err := m.set.Decode(kind, []byte(raw)); text != want || !is(err, code, at) {
		t.Fatalf("P4.4: %q: Decode(%d, %q): %q, %v; want %q, %d at %d", m.set.Terms(), kind, raw, text, err, want, code, at)
	}
}

func holdEncode(t *testing.T, m model, kind int, text string) {
	t.Helper()
	want, at, code := m.encode(kind, text)
	if raw, err := m.set.Encode(kind, text); string(raw) != want || !is(err, code, at) {
		t.Fatalf("P4.5: %q: Encode(%d, %q): %q, %v; want %q, %d at %d", m.set.Terms(), kind, text, raw, err, want, code, at)
	}
}

// TestBackAndForth: P4.9 and P4.10.
func TestBackAndForth(t *testing.T) {
	rng := rand.New(rand.NewSource(49))
	for _, m := range models(t) {
		for range 300 {
			kind := rng.Intn(3)
			raw := m.readable(rng, kind, 40)
			text, err := m.set.Decode(kind, []byte(raw))
			if err != nil {
				t.Fatalf("%q: %q: %v", m.set.Terms(), raw, err)
			}
			again, err := m.set.Encode(kind, text)
			if err != nil || !m.extended && string(again) != raw {
				t.Fatalf("P4.10: %q: %q is %q, that is %q, %v", m.set.Terms(), raw, text, again, err)
			}
			if back, err := m.set.Decode(kind, again); err != nil || back != text {
				t.Fatalf("P4.9: %q: %q is %q, that is %q, %v", m.set.Terms(), text, again, back, err)
			}
			if len(again) > 4*utf8.RuneCountInString(text) {
				t.Fatalf("P4.14: %q: %q has %d bytes", m.set.Terms(), text, len(again))
			}
		}
	}
}

// TestGrown: the way back may be longer than a text may be, with code extensions alone. Here it was read where one repertoire has all, and is written in two by turns, which stand ahead of it.
func TestGrown(t *testing.T) {
	const most = api.MaxCharBytes
	s := set(t, "ISO 2022 IR 101", "ISO 2022 IR 126", "ISO 2022 IR 100")
	for _, n := range []int{1, 2, most / 8, (most + 3) / 8, (most+3)/8 + 1, most / 4} {
		text := strings.Repeat("é£", n)
		wantText(t, s, api.CharWord, "\x1B-A"+strings.Repeat("\xE9\xA3", n), text)
		want := ("\x1B-B" + strings.Repeat("\xE9\x1B-F\xA3\x1B-B", n))
		if want = want[3 : len(want)-3]; len(want) <= most {
			wantBytes(t, s, api.CharWord, text, want)
			wantUnwritten(t, s, api.CharWord, text+filled(most+1-len(want), ""), api.ErrCharLong, most)
		} else {
			wantUnwritten(t, s, api.CharWord, text, api.ErrCharLong, most)
		}
	}
}

// TestASCII: P4.11.
func TestASCII(t *testing.T) {
	var all string
	for b := 0x20; b <= 0x7E; b++ {
		all += string(rune(b))
	}
	for _, m := range models(t) {
		for _, kind := range allKinds {
			text := all
			if kind == api.CharText {
				text += "\t\n\f\r" + all
			}
			for _, s := range []string{text, filled(api.MaxCharBytes, "z")} {
				raw, err := m.set.Encode(kind, s)
				back, err2 := m.set.Decode(kind, []byte(s))
				if string(raw) != s || back != s || err != nil || err2 != nil {
					t.Errorf("P4.11: %q: %.40q, %v; %.40q, %v", m.set.Terms(), raw, err, back, err2)
				}
			}
		}
	}
}

// TestPieces: P4.12, at every end of a piece of a text.
func TestPieces(t *testing.T) {
	rng := rand.New(rand.NewSource(412))
	cuts := 0
	for _, m := range models(t) {
		for range 200 {
			kind := rng.Intn(3)
			raw := m.readable(rng, kind, 40)
			text, err := m.set.Decode(kind, []byte(raw))
			if err != nil {
				t.Fatal(err)
			}
			for i := range raw {
				if strings.IndexByte(modelEnders[kind], raw[i]) < 0 {
					continue
				}
				cuts++
				a, err := m.set.Decode(kind, []byte(raw[:i]))
				b, err2 := m.set.Decode(kind, []byte(raw[i+1:]))
				if err != nil || err2 != nil || a+raw[i:i+1]+b != text {
					t.Fatalf("P4.12: %q: %q is %q; cut at %d %q, %v, %q, %v", m.set.Terms(), raw, text, i, a, err, b, err2)
				}
			}
		}
	}
	if cuts < 1000 {
		t.Errorf("only %d cuts", cuts)
	}
}
