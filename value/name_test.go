package value_test

import (
	"math/rand"
	"strings"
	"testing"
	"unicode/utf8"

	"modality/api"
	"modality/value"
)

// named gives a name by its groups' components.
func named(groups ...[5]string) api.Name {
	var n api.Name
	copy(n.Part[:], groups)
	return n
}

func TestParseName(t *testing.T) {
	const bad = "\xe9" // a byte that is part of no rune
	x := func(n int) string { return strings.Repeat("x", n) }
	accents := func(n int) string { return strings.Repeat("\u00e9", n) }
	wantRead(t, "P5.6: ParseName", value.ParseName, []reading[api.Name]{
		{text: ""},
		{text: "="},
		{text: "^^^^=^^^^=^^^^"},
		{text: "Doe", want: named([5]string{"Doe"})},
		{text: "Doe^Jane^^Dr=", want: named([5]string{"Doe", "Jane", "", "Dr", ""})},
		{text: "a^b^c^d^e=f^g^h^i^j=k^l^m^n^o", want: named([5]string{"a", "b", "c", "d", "e"}, [5]string{"f", "g", "h", "i", "j"}, [5]string{"k", "l", "m", "n", "o"})},
		{text: "==^x", want: named([5]string{}, [5]string{}, [5]string{"", "x"})},
		{text: "=Yamada", want: named([5]string{}, [5]string{"Yamada"})},
		{text: "山田^太郎=やまだ^たろう", want: named([5]string{"山田", "太郎"}, [5]string{"やまだ", "たろう"})},
		{text: " a ^ b ", want: named([5]string{" a ", " b "})},
		{text: "a" + bad + "^b", want: named([5]string{"a" + bad, "b"})},
		{text: "\u0080^\u00ad", want: named([5]string{"\u0080", "\u00ad"})},
		{text: x(64), want: named([5]string{x(64)})},
		{text: accents(64), want: named([5]string{accents(64)})},
		{text: strings.Repeat(bad, 64), want: named([5]string{strings.Repeat(bad, 64)})},
		{text: x(63) + "^", want: named([5]string{x(63)})},
		{text: x(64) + "=" + x(64) + "=" + x(64), want: named([5]string{x(64)}, [5]string{x(64)}, [5]string{x(64)})},

		{text: "a=b=c=d", code: api.ErrValueMany, at: 5},
		{text: "===", code: api.ErrValueMany, at: 2},
		{text: "====", code: api.ErrValueMany, at: 2},
		{text: "a==b=\\", code: api.ErrValueMany, at: 4},
		{text: "a^b^c^d^e^f", code: api.ErrValueMany, at: 9},
		{text: "^^^^^", code: api.ErrValueMany, at: 4},
		{text: "a=^^^^^\\", code: api.ErrValueMany, at: 6},
		{text: "^^^^=^^^^^", code: api.ErrValueMany, at: 9},
		{text: "a\\b", code: api.ErrValueForm, at: 1},
		{text: "\\", code: api.ErrValueForm, at: 0},
		{text: "山\\", code: api.ErrValueForm, at: 3},
		{text: "ab\x00", code: api.ErrValueForm, at: 2},
		{text: "ab\x1b", code: api.ErrValueForm, at: 2},
		{text: "ab\x1f", code: api.ErrValueForm, at: 2},
		{text: "ab\x7f", code: api.ErrValueForm, at: 2},
		{text: "a=b\n=c", code: api.ErrValueForm, at: 3},
		{text: "\\^^^^^", code: api.ErrValueForm, at: 0},
		{text: "a=b=c\t=", code: api.ErrValueForm, at: 5},
		{text: x(65), code: api.ErrValueLong, at: 0},
		{text: accents(65), code: api.ErrValueLong, at: 0},
		{text: strings.Repeat(bad, 65), code: api.ErrValueLong, at: 0},
		{text: x(64) + "^", code: api.ErrValueLong, at: 0},
		{text: "a=" + accents(65), code: api.ErrValueLong, at: 2},
		{text: "é==" + x(65), code: api.ErrValueLong, at: 4},
		{text: x(65) + "\\", code: api.ErrValueForm, at: 65},
		{text: x(65) + "^^^^^", code: api.ErrValueMany, at: 69},
		{text: x(65) + "=\\", code: api.ErrValueLong, at: 0},
		{text: x(65) + "===", code: api.ErrValueLong, at: 0},
		{text: "==" + x(65) + "=", code: api.ErrValueLong, at: 2},
		{text: "==^^^^^=", code: api.ErrValueMany, at: 6},
		{text: x(1 << 20), code: api.ErrValueLong, at: 0},
		{text: strings.Repeat("=", 1<<20), code: api.ErrValueMany, at: 2},
	})
}

// nameOf reads a name by the document's words: the groups one behind the other, and in each the bytes that may not be ahead of its length.
func nameOf(s string) (n api.Name, code api.Errno, at int) {
	for g, group := range strings.SplitN(s, "=", 4) {
		if g == 3 {
			return api.Name{}, api.ErrValueMany, at - 1
		}
		for i := range len(group) {
			switch b := group[i]; {
			case b < 32 || b == 127 || b == '\\':
				return api.Name{}, api.ErrValueForm, at + i
			case b == '^' && strings.Count(group[:i], "^") == 4:
				return api.Name{}, api.ErrValueMany, at + i
			}
		}
		if utf8.RuneCountInString(group) > 64 {
			return api.Name{}, api.ErrValueLong, at
		}
		copy(n.Part[g][:], strings.Split(group, "^"))
		at += len(group) + 1
	}
	return n, api.OK, 0
}

func TestNameTexts(t *testing.T) {
	texts := allTexts(6, "a", "^", "=", "\\")
	r := rand.New(rand.NewSource(7))
	long := []string{strings.Repeat("x", 30), strings.Repeat("é", 33), strings.Repeat("\xff", 31), "山", "^", "^", "="}
	for range 200000 {
		texts = append(texts, someText(r, 12, long...), someText(r, 30, "a", "é", "\xc3", "^", "^", "=", "b"))
		texts = append(texts, spoiled(r, someText(r, 9, long...), "^=\\\x00\x1f\x7f\x80"))
	}
	read := 0
	for _, s := range texts {
		want, code, at := nameOf(s)
		got, err := value.ParseName(s)
		if got != want || !is(err, code, at) {
			t.Fatalf("P5.6: ParseName(%q): %v, %v; want %v, %d at %d", s, got, err, want, code, at)
		}
		if err != nil {
			continue
		}
		read++
		text, err := value.PrintName(got)
		if err != nil {
			t.Fatalf("P5.14: PrintName(%q): %v", got, err)
		}
		if back, err := value.ParseName(text); back != got || err != nil {
			t.Fatalf("P5.6, P5.14: %q is written as %q, and that is read as %q, %v", got, text, back, err)
		}
	}
	if read < 50000 {
		t.Errorf("only %d of the texts were names", read)
	}
}

func TestPrintName(t *testing.T) {
	x := func(n int) string { return strings.Repeat("x", n) }
	wantPrinted(t, "P5.6: PrintName", value.PrintName, []printing[api.Name]{
		{data: api.Name{}, want: ""},
		{data: named([5]string{"Doe"}), want: "Doe"},
		{data: named([5]string{"Doe", "Jane", "", "Dr", ""}), want: "Doe^Jane^^Dr"},
		{data: named([5]string{"", "", "", "", "e"}), want: "^^^^e"},
		{data: named([5]string{}, [5]string{"b"}), want: "=b"},
		{data: named([5]string{}, [5]string{}, [5]string{"", "x"}), want: "==^x"},
		{data: named([5]string{"a", "b", "c", "d", "e"}, [5]string{"f", "g", "h", "i", "j"}, [5]string{"k", "l", "m", "n", "o"}), want: "a^b^c^d^e=f^g^h^i^j=k^l^m^n^o"},
		{data: named([5]string{"a"}, [5]string{}, [5]string{"c"}), want: "a==c"},
		{data: named([5]string{" ", "\xff\u0080"}), want: " ^\xff\u0080"},
		{data: named([5]string{x(64)}, [5]string{"", "", "", "", x(60)}), want: x(64) + "=^^^^" + x(60)},
		{data: named([5]string{strings.Repeat("é", 64)}), want: strings.Repeat("é", 64)},

		{data: named([5]string{"a^b"}), code: api.ErrValueField, at: 0},
		{data: named([5]string{"", "a=b"}), code: api.ErrValueField, at: 1},
		{data: named([5]string{"", "", "\\"}), code: api.ErrValueField, at: 2},
		{data: named([5]string{"", "", "", "\x00"}), code: api.ErrValueField, at: 3},
		{data: named([5]string{"", "", "", "", "\x1f"}), code: api.ErrValueField, at: 4},
		{data: named([5]string{}, [5]string{"é\x7f"}), code: api.ErrValueField, at: 5},
		{data: named([5]string{}, [5]string{"", "a"}, [5]string{"", "", "^"}), code: api.ErrValueField, at: 12},
		{data: named([5]string{}, [5]string{}, [5]string{"", "", "", "", "="}), code: api.ErrValueField, at: 14},
		{data: named([5]string{"", "^", "="}, [5]string{"="}), code: api.ErrValueField, at: 1},
		{data: named([5]string{x(65)}), code: api.ErrValueLong, at: 0},
		{data: named([5]string{x(60), "", "", "y"}), want: x(60) + "^^^y"},
		{data: named([5]string{x(60), "", "", "", "y"}), code: api.ErrValueLong, at: 0},
		{data: named([5]string{}, [5]string{"", x(64)}), code: api.ErrValueLong, at: 5},
		{data: named([5]string{}, [5]string{}, [5]string{strings.Repeat("\xff", 65)}), code: api.ErrValueLong, at: 10},
		{data: named([5]string{x(65), "^"}), code: api.ErrValueField, at: 1},
		{data: named([5]string{x(65)}, [5]string{"^"}), code: api.ErrValueLong, at: 0},
		{data: named([5]string{x(64)}, [5]string{"^"}), code: api.ErrValueField, at: 5},
		{data: named([5]string{x(1 << 20)}), code: api.ErrValueLong, at: 0},
	})
}

// TestNameParts: names whose components may be anything are written just so that they are read again, or refused for a reason that there is.
func TestNameParts(t *testing.T) {
	r := rand.New(rand.NewSource(8))
	pieces := []string{"a", "é", "\xff", strings.Repeat("b", 9), strings.Repeat("山", 14)}
	for range 200000 {
		var n api.Name
		for g := range n.Part {
			for c := range n.Part[g] {
				n.Part[g][c] = someText(r, 3, pieces...)
				if r.Intn(80) == 0 {
					n.Part[g][c] += string("^=\\\x00\x1f\x7f"[r.Intn(6)])
				}
			}
		}
		code, at := nameField(n)
		text, err := value.PrintName(n)
		if !is(err, code, at) || err != nil && text != "" {
			t.Fatalf("P5.6: PrintName(%q): %q, %v; want %d at %d", n, text, err, code, at)
		}
		if err != nil {
			continue
		}
		if back, err := value.ParseName(text); back != n || err != nil || strings.HasSuffix(text, "^") || strings.HasSuffix(text, "=") || strings.Contains(text, "^=") {
			t.Fatalf("P5.6, P5.14: %q is written as %q, and that is read as %q, %v", n, text, back, err)
		}
	}
}

// nameField tells why a name has no text, and where.
func nameField(n api.Name) (api.Errno, int) {
	for g, group := range n.Part {
		runes := 0
		for c, part := range group {
			if strings.ContainsAny(part, "^=\\\x00\x1f\x7f") {
				return api.ErrValueField, 5*g + c
			}
			if part != "" {
				runes = c
				for _, p := range group[:c+1] {
					runes += utf8.RuneCountInString(p)
				}
			}
		}
		if runes > 64 {
			return api.ErrValueLong, 5 * g
		}
	}
	return api.OK, 0
}
