package dict_test

import (
	"fmt"
	"math/rand"
	"regexp"
	"strconv"
	"strings"
	"testing"
	"unicode/utf8"

	"modality/api"
	"modality/dict"
)

// textChars tells which characters a text may have, as a class of a regular expression.
var textChars = map[string]string{
	"AE": `[ -\[\]-~]`, "AS": `[0-9DWMY]`, "CS": `[A-Z0-9 _]`, "DA": `[0-9]`, "DS": `[0-9+\-.Ee ]`, "DT": `[0-9+\-.]`, "TM": `[0-9.]`, "UI": `[0-9.]`, "IS": `[0-9+\- ]`, "UR": `[!-\[\]-~]`,
	"LO": `[^\x{0}-\x{1f}\x{7f}-\x{9f}\\]`, "PN": `[^\x{0}-\x{1f}\x{7f}-\x{9f}\\]`, "SH": `[^\x{0}-\x{1f}\x{7f}-\x{9f}\\]`, "UC": `[^\x{0}-\x{1f}\x{7f}-\x{9f}\\]`,
	"LT": `[^\x{0}-\x{8}\x{b}\x{e}-\x{1f}\x{7f}-\x{9f}]`, "ST": `[^\x{0}-\x{8}\x{b}\x{e}-\x{1f}\x{7f}-\x{9f}]`, "UT": `[^\x{0}-\x{8}\x{b}\x{e}-\x{1f}\x{7f}-\x{9f}]`,
}

// textForms tells the forms of the texts that have one.
var textForms = map[string]string{
	"AS": `[0-9]{3}[A-Z]`,
	"DA": `[0-9]{8}`,
	"DS": ` *[+-]?([0-9]+(\.[0-9]*)?|\.[0-9]+)([Ee][+-]?[0-9]+)?`,
	"IS": ` *[+-]?[0-9]+`,
	"DT": `[0-9]{4}([0-9]{2}([0-9]{2}([0-9]{2}([0-9]{2}([0-9]{2}(\.[0-9]{1,6})?)?)?)?)?)?([+-][0-9]{4})?`,
	"TM": `[0-9]{2}([0-9]{2}([0-9]{2}(\.[0-9]{1,6})?)?)?`,
	"UI": `(0|[1-9][0-9]*)(\.(0|[1-9][0-9]*))*`,
	"PN": `[^=^]*(\^[^=^]*){0,4}(=[^=^]*(\^[^=^]*){0,4}){0,2}`,
}

type oracle struct {
	info  api.VRInfo
	chars *regexp.Regexp
	form  *regexp.Regexp
}

func oracles(t *testing.T) map[api.VR]oracle {
	list := map[api.VR]oracle{}
	for v, info := range documentInfos(t) {
		o := oracle{info: info}
		if info.Text {
			o.chars = regexp.MustCompile(`(?s)\A` + textChars[info.Name] + `\z`)
		}
		if form := textForms[info.Name]; form != "" {
			o.form = regexp.MustCompile(`(?s)\A(` + form + `)\z`)
		}
		list[v] = o
	}
	return list
}

// answer tells what Check must answer, by the document's list.
func (o oracle) answer(value string) (api.Errno, int) {
	if o.info.Name == "" || o.info.Name == "SQ" {
		return api.ErrDictVR, 0
	}
	if value == "" {
		return api.OK, 0
	}
	if len(value) > 65534 {
		return api.ErrDictLength, 65534
	}
	if !o.info.Text {
		return o.binaryAnswer(value)
	}
	if o.info.Most > 0 && o.length(value) > o.info.Most {
		return api.ErrDictLength, o.info.Most
	}
	for at := 0; at < len(value); {
		r, size := utf8.DecodeRuneInString(value[at:])
		if r == utf8.RuneError && size == 1 || !o.chars.MatchString(value[at:at+size]) {
			return api.ErrDictChar, at
		}
		at += size
	}
	if o.form != nil && !o.form.MatchString(value) || o.info.Name == "IS" && !small(value) {
		return api.ErrDictForm, 0
	}
	return api.OK, 0
}

func (o oracle) binaryAnswer(value string) (api.Errno, int) {
	if len(value)%2 != 0 || len(value)%o.info.Unit != 0 || o.info.Multi && len(value) != o.info.Unit {
		return api.ErrDictLength, len(value)
	}
	return api.OK, 0
}

func (o oracle) length(value string) int {
	if !o.info.Chars {
		return len(value)
	}
	longest := 0
	groups := []string{value}
	if o.info.Name == "PN" {
		groups = strings.Split(value, "=")
	}
	for _, g := range groups {
		longest = max(longest, len([]rune(g)))
	}
	return longest
}

func small(value string) bool {
	n, err := strconv.ParseFloat(strings.TrimLeft(value, " "), 64)
	return err == nil && n >= -2147483648 && n <= 2147483647
}

func wantCheck(t *testing.T, all map[api.VR]oracle, v api.VR, value string) {
	t.Helper()
	code, at := all[v].answer(value)
	if err := dict.Check(v, value); !is(err, code, at) {
		t.Errorf("P3.8: Check(%d %s, %.60q) = %v, want %d at %d", v, all[v].info.Name, value, err, code, at)
	}
}

// TestCheckSaid looks at values by hand, so that the oracle is not all there is.
func TestCheckSaid(t *testing.T) {
	all := oracles(t)
	long := strings.Repeat
	for _, c := range []struct {
		vr   string
		in   string
		code api.Errno
		at   int
	}{
		{"AE", "CT 1", 0, 0}, {"AE", "~!]", 0, 0}, {"AE", "a\\b", api.ErrDictChar, 1}, {"AE", "a\x7f", api.ErrDictChar, 1}, {"AE", "a\x1f", api.ErrDictChar, 1}, {"AE", "aé", api.ErrDictChar, 1}, {"AE", long("x", 16), 0, 0}, {"AE", long("x", 17), api.ErrDictLength, 16}, {"AE", long("é", 9), api.ErrDictLength, 16}, {"AE", long("é", 8), api.ErrDictChar, 0},
		{"AS", "045Y", 0, 0}, {"AS", "000D", 0, 0}, {"AS", "045", api.ErrDictForm, 0}, {"AS", "0450", api.ErrDictForm, 0}, {"AS", "45Y", api.ErrDictForm, 0}, {"AS", "04YY", api.ErrDictForm, 0}, {"AS", "Y045", api.ErrDictForm, 0}, {"AS", "045y", api.ErrDictChar, 3}, {"AS", "045Y0", api.ErrDictLength, 4},
		{"CS", "CT_1 ", 0, 0}, {"CS", "ct", api.ErrDictChar, 0}, {"CS", "A-", api.ErrDictChar, 1}, {"CS", "A\\B", api.ErrDictChar, 1},
		{"DA", "20261116", 0, 0}, {"DA", "99999999", 0, 0}, {"DA", "2026111", api.ErrDictForm, 0}, {"DA", "202611111", api.ErrDictLength, 8}, {"DA", "2026-116", api.ErrDictChar, 4}, {"DA", "2026.11.16", api.ErrDictLength, 8},
		{"DS", "-.5e3", 0, 0}, {"DS", "5.", 0, 0}, {"DS", "  +1.25E-10", 0, 0}, {"DS", ".", api.ErrDictForm, 0}, {"DS", "1E", api.ErrDictForm, 0}, {"DS", "1E+", api.ErrDictForm, 0}, {"DS", "E5", api.ErrDictForm, 0}, {"DS", ".E5", api.ErrDictForm, 0}, {"DS", "1.2.3", api.ErrDictForm, 0}, {"DS", "1 ", api.ErrDictForm, 0}, {"DS", "- 1", api.ErrDictForm, 0}, {"DS", "+-1", api.ErrDictForm, 0}, {"DS", "   ", api.ErrDictForm, 0}, {"DS", "1e5.", api.ErrDictForm, 0}, {"DS", "1e5e5", api.ErrDictForm, 0}, {"DS", "1+1", api.ErrDictForm, 0}, {"DS", "inf", api.ErrDictChar, 0}, {"DS", "12345678901234567", api.ErrDictLength, 16},
		{"IS", "2147483647", 0, 0}, {"IS", "2147483648", api.ErrDictForm, 0}, {"IS", "-2147483648", 0, 0}, {"IS", "-2147483649", api.ErrDictForm, 0}, {"IS", "999999999999", api.ErrDictForm, 0}, {"IS", "000000000001", 0, 0}, {"IS", " +7", 0, 0}, {"IS", "-", api.ErrDictForm, 0}, {"IS", "1 ", api.ErrDictForm, 0}, {"IS", "1-", api.ErrDictForm, 0}, {"IS", "--1", api.ErrDictForm, 0}, {"IS", "1.0", api.ErrDictChar, 1}, {"IS", "1_0", api.ErrDictChar, 1}, {"IS", " ", api.ErrDictForm, 0}, {"IS", "-0", 0, 0},
		{"DT", "2026", 0, 0}, {"DT", "202", api.ErrDictForm, 0}, {"DT", "20261", api.ErrDictForm, 0}, {"DT", "20261116093000.123456-0100", 0, 0}, {"DT", "20261116093000.1234567", api.ErrDictForm, 0}, {"DT", "20261116093000.", api.ErrDictForm, 0}, {"DT", "202611160930.5", api.ErrDictForm, 0}, {"DT", "2026111609300000", api.ErrDictForm, 0}, {"DT", "2026-0500", 0, 0}, {"DT", "2026+05", api.ErrDictForm, 0}, {"DT", "2026+05000", api.ErrDictForm, 0}, {"DT", "2026+0500-0500", api.ErrDictForm, 0}, {"DT", "+0500", api.ErrDictForm, 0}, {"DT", "2026-05.0", api.ErrDictForm, 0}, {"DT", "2026 ", api.ErrDictChar, 4},
		{"TM", "09", 0, 0}, {"TM", "9", api.ErrDictForm, 0}, {"TM", "093", api.ErrDictForm, 0}, {"TM", "0930", 0, 0}, {"TM", "0930.5", api.ErrDictForm, 0}, {"TM", "093015.5", 0, 0}, {"TM", "093015.123456", 0, 0}, {"TM", "093015.1234567", api.ErrDictForm, 0}, {"TM", "093015.", api.ErrDictForm, 0}, {"TM", "09301500", api.ErrDictForm, 0}, {"TM", "09:30", api.ErrDictChar, 2}, {"TM", "093015.12345678", api.ErrDictLength, 14}, {"TM", "093015..5", api.ErrDictForm, 0},
		{"UI", "0", 0, 0}, {"UI", "1.0.2", 0, 0}, {"UI", "1.02", api.ErrDictForm, 0}, {"UI", "00", api.ErrDictForm, 0}, {"UI", "1.00.1", api.ErrDictForm, 0}, {"UI", "1..2", api.ErrDictForm, 0}, {"UI", ".1", api.ErrDictForm, 0}, {"UI", "1.", api.ErrDictForm, 0}, {"UI", ".", api.ErrDictForm, 0}, {"UI", "1.2\x00", api.ErrDictChar, 3}, {"UI", long("1", 64), 0, 0}, {"UI", long("1", 65), api.ErrDictLength, 64},
		{"UR", "http://a/b?c", 0, 0}, {"UR", "a b", api.ErrDictChar, 1}, {"UR", "a\\b", api.ErrDictChar, 1}, {"UR", "a\x7f", api.ErrDictChar, 1}, {"UR", long("x", 65534), 0, 0}, {"UR", long("x", 65535), api.ErrDictLength, 65534},
		{"LO", long("é", 64), 0, 0}, {"LO", long("é", 65), api.ErrDictLength, 64}, {"LO", long("\xff", 64), api.ErrDictChar, 0}, {"LO", long("\xff", 65), api.ErrDictLength, 64}, {"LO", "é\xff", api.ErrDictChar, 2}, {"LO", "\ufffd", 0, 0}, {"LO", "a\ufffd\xef\xbf", api.ErrDictChar, 4}, {"LO", "a\xc0\x80", api.ErrDictChar, 1}, {"LO", "a\xed\xa0\x80", api.ErrDictChar, 1}, {"LO", "a\xf4\x90\x80\x80", api.ErrDictChar, 1}, {"LO", "\U0010ffff\uffff", 0, 0}, {"LO", "x\u0085", api.ErrDictChar, 1}, {"LO", "x\u009f", api.ErrDictChar, 1}, {"LO", "x\u00a0\u2028", 0, 0}, {"LO", "a\nb", api.ErrDictChar, 1}, {"LO", "a\\b", api.ErrDictChar, 1}, {"LO", "a ", 0, 0},
		{"SH", long("é", 16), 0, 0}, {"SH", "12345678901234567", api.ErrDictLength, 16}, {"SH", "a\tb", api.ErrDictChar, 1},
		{"LT", "a\tb\n\f\r\\", 0, 0}, {"LT", "a\x1b", api.ErrDictChar, 1}, {"LT", "a\v", api.ErrDictChar, 1}, {"LT", long("é", 10240), 0, 0}, {"LT", long("é", 10241), api.ErrDictLength, 10240}, {"ST", long("x", 1024), 0, 0}, {"ST", long("x", 1025), api.ErrDictLength, 1024}, {"ST", "a\u0080", api.ErrDictChar, 1},
		{"UC", long("x", 65534), 0, 0}, {"UC", "a\\b", api.ErrDictChar, 1}, {"UT", "a\\b", 0, 0}, {"UT", long("é", 32767), 0, 0}, {"UT", long("é", 32768), api.ErrDictLength, 65534}, {"UT", "a\x00", api.ErrDictChar, 1},
		{"PN", "a^b^c^d^e=f^^^^=g", 0, 0}, {"PN", "a=b=c=d", api.ErrDictForm, 0}, {"PN", "^^^^^", api.ErrDictForm, 0}, {"PN", "==^^^^^", api.ErrDictForm, 0}, {"PN", "===", api.ErrDictForm, 0}, {"PN", "==", 0, 0}, {"PN", long("é", 64) + "=" + long("x", 64) + "=" + long("y", 64), 0, 0}, {"PN", "=" + long("x", 65), api.ErrDictLength, 64}, {"PN", "===" + long("x", 65), api.ErrDictLength, 64}, {"PN", "===" + long("x", 64), api.ErrDictForm, 0}, {"PN", "====\\", api.ErrDictChar, 4}, {"PN", long("^", 65), api.ErrDictLength, 64}, {"PN", long("^", 64), api.ErrDictForm, 0},
		{"US", "ab", 0, 0}, {"US", "abcd", api.ErrDictLength, 4}, {"US", "a", api.ErrDictLength, 1}, {"AT", "ab", api.ErrDictLength, 2}, {"AT", "\\\\\xff\x00", 0, 0}, {"FD", "abcdefgh", 0, 0}, {"FD", "abcd", api.ErrDictLength, 4}, {"OB", "abc", api.ErrDictLength, 3}, {"OB", "ab\xff\x00", 0, 0}, {"OW", "abcdef", 0, 0}, {"OW", "abcde", api.ErrDictLength, 5}, {"UN", long("x", 65534), 0, 0}, {"UN", long("x", 65535), api.ErrDictLength, 65534}, {"OB", long("x", 65536), api.ErrDictLength, 65534}, {"US", long("x", 65536), api.ErrDictLength, 65534}, {"AE", long("x", 65535), api.ErrDictLength, 65534}, {"AE", long("x", 65534), api.ErrDictLength, 16},
		{"SQ", "", api.ErrDictVR, 0}, {"SQ", "x", api.ErrDictVR, 0},
	} {
		if err := dict.Check(vrNumbers[c.vr], c.in); !is(err, c.code, c.at) {
			t.Errorf("P3.8: Check(%s, %.60q) = %v, want %d at %d", c.vr, c.in, err, c.code, c.at)
		}
		if code, at := all[vrNumbers[c.vr]].answer(c.in); code != c.code || at != c.at {
			t.Errorf("the oracle says of %s %.60q: %d at %d", c.vr, c.in, code, at)
		}
	}
}

// TestCheckLengths looks at the lengths about each VR's bound, in bytes and in characters of two bytes.
func TestCheckLengths(t *testing.T) {
	all := oracles(t)
	for _, v := range append(allVRs(), noVRs...) {
		most := all[v].info.Most
		for _, n := range []int{0, 1, 2, 3, 4, 5, 7, 8, 9, 16, most - 1, most, most + 1, 2*most - 1, 2 * most, 2*most + 1, 65533, 65534, 65535, 65536, 131072} {
			for _, one := range []string{"1", "é", "\xff", "^", "=", "\\"} {
				wantCheck(t, all, v, strings.Repeat(one, max(n, 0)))
			}
		}
	}
}

// TestCheckBytes puts every byte, and the characters at the edges of what may be, first, between and last.
func TestCheckBytes(t *testing.T) {
	all := oracles(t)
	var texts []string
	for b := range 256 {
		texts = append(texts, string([]byte{byte(b)}))
	}
	for _, r := range []rune{0x80, 0x84, 0x85, 0x9f, 0xa0, 0xa5, 0xff, 0x131, 0x660, 0x7ff, 0x800, 0xd7ff, 0xe000, 0xfdd0, 0xff10, 0xff3c, 0xfffd, 0xfffe, 0xffff, 0x10000, 0x10ffff, 0x130, 0x158, 0x12d} {
		texts = append(texts, string(r))
	}
	texts = append(texts, "\xc0\x80", "\xe0\x80\x80", "\xed\xa0\x80", "\xed\xbf\xbf", "\xf4\x90\x80\x80", "\xf8\x88\x80\x80\x80", "\xe2\x82", "\x80\x80", "\xef\xbf")
	for _, v := range append(allVRs(), noVRs...) {
		for _, x := range texts {
			for _, frame := range [][2]string{{"", ""}, {"1", ""}, {"", "1"}, {"1", "1"}, {"é", "é"}} {
				wantCheck(t, all, v, frame[0]+x+frame[1])
			}
		}
	}
}

// TestCheckShort looks at every text of up to six characters of what the forms hang on.
func TestCheckShort(t *testing.T) {
	all := oracles(t)
	for vr, marks := range map[string]string{"AS": "0Y", "DS": "0+.E ", "IS": "0- ", "DT": "0+.", "TM": "0.", "UI": "01.", "DA": "0", "PN": "a^="} {
		list := []string{""}
		for range 6 {
			var longer []string
			for _, s := range list {
				for i := range len(marks) {
					longer = append(longer, s+marks[i:i+1])
				}
			}
			for _, s := range longer {
				wantCheck(t, all, vrNumbers[vr], s)
			}
			list = longer
		}
	}
}

// TestCheckRandom holds random texts, and such as are nearly of a form, against the oracle.
func TestCheckRandom(t *testing.T) {
	all := oracles(t)
	random := rand.New(rand.NewSource(8))
	seeds := map[string][]string{
		"AS": {"045Y"}, "DA": {"20261116"}, "DS": {"-12.5e+3", "  7."}, "IS": {"-2147483648", " 2147483647"}, "UI": {"1.2.840.10008.1.2", "0.10.0"}, "PN": {"Doe^John^^Dr^Jr=A^B=C"},
		"DT": {"20261116093000.123456+0100", "2026111609-0100"}, "TM": {"093015.123456", "0930"},
	}
	for vr, list := range seeds {
		v := vrNumbers[vr]
		marks := "0123456789+-. EeDWMY^=\\é"
		for range 20000 {
			s := list[random.Intn(len(list))]
			for range random.Intn(4) {
				i := random.Intn(len(s) + 1)
				j := i + random.Intn(min(3, len(s)-i+1))
				k := random.Intn(len(marks))
				s = s[:i] + marks[k:min(k+random.Intn(2), len(marks))] + s[j:]
			}
			wantCheck(t, all, v, s)
		}
	}
}

func TestCheckEmpty(t *testing.T) {
	for _, v := range allVRs() {
		if err := dict.Check(v, ""); v != api.VRSQ && err != nil || v == api.VRSQ && !is(err, api.ErrDictVR, 0) {
			t.Errorf("P3.8: Check(%d, none) = %v", v, err)
		}
	}
	for _, v := range noVRs {
		for _, value := range []string{"", "x", strings.Repeat("x", 65535)} {
			if err := dict.Check(v, value); !is(err, api.ErrDictVR, 0) {
				t.Errorf("P3.8: Check(%d, %.10q) = %v", v, value, err)
			}
		}
	}
}

// TestIntegers walks over both edges of the numbers that an IS may be.
func TestIntegers(t *testing.T) {
	for _, edge := range []int64{-2147483648, 2147483647, 0} {
		for n := edge - 3; n <= edge+3; n++ {
			want := api.OK
			if n < -2147483648 || n > 2147483647 {
				want = api.ErrDictForm
			}
			for _, s := range []string{fmt.Sprint(n), fmt.Sprintf("%+d", n), " " + fmt.Sprint(n)} {
				if err := dict.Check(api.VRIS, s); !is(err, want, 0) {
					t.Errorf("P3.8: Check(IS, %q) = %v", s, err)
				}
			}
		}
	}
}
