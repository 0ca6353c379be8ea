package value_test

import (
	"math/rand"
	"strings"
	"testing"
	"unicode/utf8"

	"modality/value"
)

func TestGlob(t *testing.T) {
	for _, c := range []struct {
		pattern, text string
		want          bool
	}{
		{"", "", true},
		{"", "a", false},
		{"a", "", false},
		{"a", "a", true},
		{"a", "A", false},
		{"a", "ab", false},
		{"b", "ab", false},
		{"S?ith*", "Smith^Jo", true},
		{"S?ith*", "Smith", true},
		{"S?ith*", "Sith", false},
		{"*", "", true},
		{"*", "anything\n\\at all", true},
		{"**", "", true},
		{"?", "", false},
		{"?", "a", true},
		{"?", "ab", false},
		{"??", "a", false},
		{"?*", "", false},
		{"*?", "a", true},
		{"*?*", "", false},
		{"a*", "a", true},
		{"a*", "ba", false},
		{"*a", "aba", true},
		{"*a", "abab", false},
		{"*ab", "aab", true},
		{"*ab*ab", "abab", true},
		{"*ab*ab", "aab", false},
		{"a*b*c", "abbbxc", true},
		{"a*b*c", "acb", false},
		{"*a?c*", "xxabbabcx", true},
		{"*", "*", true},
		{"a?", "a?", true},
		{"a", "*", false},
		{"a", "?", false},
		{"?", "é", true},
		{"??", "é", false},
		{"?", "山", true},
		{"?", "😀", true},
		{"?", "e\u0301", false},
		{"é", "e\u0301", false},
		{"?", "\xe9", true},
		{"\xe9", "\xe9", true},
		{"\xe9", "é", false},
		{"é", "\xe9", false},
		{"\xe9", "\xe8", false},
		{"\xe9", "\ufffd", false},
		{"\ufffd", "\xe9", false},
		{"\ufffd", "\ufffd", true},
		{"?", "\xe5\xb1", false},
		{"??", "\xe5\xb1", true},
		{"???", "\xed\xa0\x80", true}, // no rune: half a pair
		{"\xe5*", "山", false},         // no byte of a rune is an element
		{"*\xb1", "山", false},
		{"[a]", "a", false},
		{`\*`, "*", false},
		{`\*`, `\x`, true},
		{".", "a", false},
	} {
		if got := value.Glob(c.pattern, c.text); got != c.want {
			t.Errorf("P5.9: Glob(%q, %q): %v", c.pattern, c.text, got)
		}
	}
}

// pieces cuts a text into its elements.
func pieces(s string) (list []string) {
	for s != "" {
		_, size := utf8.DecodeRuneInString(s)
		list = append(list, s[:size])
		s = s[size:]
	}
	return list
}

// globs tells by a table of all beginnings whether a text fits a pattern.
func globs(pattern, text string) bool {
	p, t := pieces(pattern), pieces(text)
	fits := make([][]bool, len(p)+1)
	for i := range fits {
		fits[i] = make([]bool, len(t)+1)
		for j := range fits[i] {
			switch {
			case i == 0:
				fits[i][j] = j == 0
			case p[i-1] == "*":
				fits[i][j] = fits[i-1][j] || j > 0 && fits[i][j-1]
			default:
				fits[i][j] = j > 0 && fits[i-1][j-1] && (p[i-1] == "?" || p[i-1] == t[j-1])
			}
		}
	}
	return fits[len(p)][len(t)]
}

// TestGlobTexts: every short pattern with every short text.
func TestGlobTexts(t *testing.T) {
	patterns, texts := allTexts(5, "a", "b", "*", "?"), allTexts(6, "a", "b")
	for _, p := range patterns {
		for _, s := range texts {
			if got := value.Glob(p, s); got != globs(p, s) {
				t.Fatalf("P5.9: Glob(%q, %q): %v", p, s, got)
			}
		}
	}
}

// TestGlobElements: texts of runes and of bytes that are part of none.
func TestGlobElements(t *testing.T) {
	r := rand.New(rand.NewSource(13))
	elements := []string{"a", "é", "\xc3", "\xa9", "\ufffd", "山", "\xe5\xb1", "😀", "*", "?"}
	held := 0
	for range 300000 {
		s := someText(r, 9, elements...)
		p := someText(r, 7, elements...)
		if r.Intn(2) == 0 { // a pattern that is likely to fit
			p = ""
			for _, e := range pieces(s) {
				p += []string{e, e, "?", "*", "*" + e, ""}[r.Intn(6)]
			}
		}
		want := globs(p, s)
		if got := value.Glob(p, s); got != want {
			t.Fatalf("P5.9: Glob(%q, %q): %v", p, s, got)
		}
		if want {
			held++
		}
	}
	if held < 20000 {
		t.Errorf("only %d patterns fitted", held)
	}
}

// TestGlobEnds: patterns with very many stars are soon through.
func TestGlobEnds(t *testing.T) {
	text := strings.Repeat("a", 20000)
	for _, c := range []struct {
		pattern string
		want    bool
	}{
		{strings.Repeat("*a", 10000), true},
		{strings.Repeat("*a", 20000), true},
		{strings.Repeat("*a", 20001), false},
		{strings.Repeat("*a", 10000) + "b", false},
		{strings.Repeat("*", 60000), true},
		{strings.Repeat("?*", 20000), true},
		{strings.Repeat("?*", 20001), false},
		{"*" + strings.Repeat("a", 5000) + "b", false},
	} {
		if got := value.Glob(c.pattern, text); got != c.want {
			t.Errorf("P5.9: Glob(%q.., %d bytes): %v", c.pattern[:6], len(text), got)
		}
	}
}

func TestFold(t *testing.T) {
	for text, want := range map[string]string{
		"":                             "",
		"abc":                          "abc",
		"ABCxyzXYZ":                    "abcxyzxyz",
		"@AZ[`az{":                     "@az[`az{",
		"\u00c9A\u00d7z\u00df":         "\u00e9a\u00d7z\u00df",
		"ÀÖ×ØÞß÷ÿ":                     "àö×øþß÷ÿ",
		"ŁΑА":                          "ŁΑА",
		"\xc9A\xc3":                    "\xc9a\xc3",
		"A\xff\xfeB":                   "a\xff\xfeb",
		"\xc3\x80\xc3\x41":             "\xc3\xa0\xc3a",
		"\ufffdA":                      "\ufffda",
		"\u0130\u1e9e\u212a":           "\u0130\u1e9e\u212a",
		"Doe^JANE=山田\\\x00":            "doe^jane=山田\\\x00",
		strings.Repeat("AÉ\xc9", 9999): strings.Repeat("aé\xc9", 9999),
	} {
		if got := value.Fold(text); got != want {
			t.Errorf("P5.10: Fold(%.40q): %.40q; want %.40q", text, got, want)
		}
	}
}

// TestFoldRunes: every rune there is, by itself, and every two bytes.
func TestFoldRunes(t *testing.T) {
	for r := rune(0); r <= utf8.MaxRune; r++ {
		if !utf8.ValidRune(r) {
			continue
		}
		want := r
		if r >= 65 && r <= 90 || r >= 0xc0 && r <= 0xde && r != 0xd7 {
			want = r + 32
		}
		if got := value.Fold(string(r)); got != string(want) {
			t.Fatalf("P5.10: Fold(%q): %q; want %q", string(r), got, string(want))
		}
	}
	for a := range 256 {
		for b := range 256 {
			text := string([]byte{byte(a), byte(b)})
			want := ""
			for _, p := range pieces(text) {
				if p >= "A" && p <= "Z" || p >= "\u00c0" && p <= "\u00de" && p != "\u00d7" {
					r := []rune(p)[0]
					p = string(r + 32)
				}
				want += p
			}
			if got := value.Fold(text); got != want {
				t.Fatalf("P5.10: Fold(%q): %q; want %q", text, got, want)
			}
		}
	}
}
