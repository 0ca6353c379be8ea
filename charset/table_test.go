package charset_test

import (
	"strconv"
	"strings"
	"testing"

	"modality/api"
	"modality/charset"
)

// What the document says of A0 to FF, by the repertoires' numbers: a byte and the number behind U+, or a range of both; "but" says that some stand for nothing or for something else.
const documentTables = `6
100 A0-FF 00A0
101 A0 00A0 A1 0104 A2 02D8 A3 0141 A4 00A4 A5 013D A6 015A A7 00A7 A8 00A8 A9 0160 AA 015E AB 0164 AC 0179 AD 00AD AE 017D AF 017B
101 B0 00B0 B1 0105 B2 02DB B3 0142 B4 00B4 B5 013E B6 015B B7 02C7 B8 00B8 B9 0161 BA 015F BB 0165 BC 017A BD 02DD BE 017E BF 017C
101 C0 0154 C1 00C1 C2 00C2 C3 0102 C4 00C4 C5 0139 C6 0106 C7 00C7 C8 010C C9 00C9 CA 0118 CB 00CB CC 011A CD 00CD CE 00CE CF 010E
101 D0 0110 D1 0143 D2 0147 D3 00D3 D4 00D4 D5 0150 D6 00D6 D7 00D7 D8 0158 D9 016E DA 00DA DB 0170 DC 00DC DD 00DD DE 0162 DF 00DF
101 E0 0155 E1 00E1 E2 00E2 E3 0103 E4 00E4 E5 013A E6 0107 E7 00E7 E8 010D E9 00E9 EA 0119 EB 00EB EC 011B ED 00ED EE 00EE EF 010F
101 F0 0111 F1 0144 F2 0148 F3 00F3 F4 00F4 F5 0151 F6 00F6 F7 00F7 F8 0159 F9 016F FA 00FA FB 0171 FC 00FC FD 00FD FE 0163 FF 02D9
126 A0 00A0 A1 2018 A2 2019 A3 00A3 A6 00A6 A7 00A7 A8 00A8 A9 00A9 AB 00AB AC 00AC AD 00AD AF 2015 B0 00B0 B1 00B1 B2 00B2 B3 00B3
126 B4 0384 B5 0385 B6 0386 B7 00B7 B8 0388 B9 0389 BA 038A BB 00BB BC 038C BD 00BD BE 038E BF 038F C0-FE 0390 but D2 0 FF 0
144 A0 00A0 A1-AC 0401 AD 00AD AE 040E AF 040F B0-EF 0410 F0 2116 F1-FC 0451 FD 00A7 FE 045E FF 045F
148 A0-FF 00A0 but D0 011E DD 0130 DE 015E F0 011F FD 0131 FE 015F`

type meaning map[byte]rune

// meanings reads the document's tables.
func meanings() map[string]meaning {
	tables := map[string]meaning{}
	for _, line := range strings.Split(documentTables, "\n") {
		words := strings.Fields(strings.ReplaceAll(line, "but ", ""))
		table := tables[words[0]]
		if table == nil {
			table = meaning{}
			tables[words[0]] = table
		}
		for i := 1; i < len(words); i += 2 {
			from, to, isRange := strings.Cut(words[i], "-")
			if !isRange {
				to = from
			}
			for b := number(from); b <= number(to); b++ {
				table[byte(b)] = rune(number(words[i+1]) + b - number(from))
			}
		}
	}
	for _, table := range tables {
		for b, r := range table {
			if r == 0 {
				delete(table, b)
			}
		}
	}
	return tables
}

func number(hex string) int {
	n, err := strconv.ParseInt(hex, 16, 32)
	if err != nil {
		panic(err)
	}
	return int(n)
}

// TestTables holds each repertoire, named either way, against the document.
func TestTables(t *testing.T) {
	tables := meanings()
	for i, n := range numbers {
		for _, term := range []string{single[i], extended[i]} {
			s := set(t, term)
			for b := 0x7F; b <= 0xFF; b++ {
				raw := string([]byte{'a', byte(b)})
				if r, ok := tables[n][byte(b)]; ok {
					wantText(t, s, api.CharWord, raw, "a"+string(r))
					wantBytes(t, s, api.CharWord, "a"+string(r), raw)
				} else {
					wantUnread(t, s, api.CharWord, raw, api.ErrCharByte, 1)
				}
			}
		}
	}
}

// TestHas asks for every rune that there is, and some that are none.
func TestHas(t *testing.T) {
	tables := meanings()
	for i, n := range numbers {
		held := map[rune]bool{}
		for _, r := range tables[n] {
			held[r] = true
		}
		holdHas(t, set(t, single[i]), func(r rune) bool { return held[r] })
		holdHas(t, set(t, extended[i]), func(r rune) bool { return held[r] })
	}
	holdHas(t, set(t, "ISO_IR 192"), func(r rune) bool {
		return r >= 0xA0 && (r < 0xD800 || r > 0xDFFF) && r <= 0x10FFFF
	})
	some := set(t, "", "ISO 2022 IR 126", "ISO 2022 IR 101")
	held := map[rune]bool{}
	for _, n := range []string{"126", "101"} {
		for _, r := range tables[n] {
			held[r] = true
		}
	}
	holdHas(t, some, func(r rune) bool { return held[r] })
}

func holdHas(t *testing.T, s *charset.Set, beyond func(r rune) bool) {
	t.Helper()
	for r := rune(-3); r < 0x110010; r++ {
		want := r >= 0x20 && r <= 0x7E || beyond(r)
		if s.Has(r) != want {
			t.Fatalf("P4.3: %q: Has(%U) is not %v", s.Terms(), r, want)
		}
	}
	for _, r := range []rune{-1 << 31, 1<<31 - 1, -0xE9, 0x1000041, 0x10000E9} {
		if s.Has(r) {
			t.Errorf("P4.3: %q: Has(%d)", s.Terms(), r)
		}
	}
}
