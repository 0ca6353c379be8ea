package store_test

import (
	"reflect"
	"regexp"
	"strings"
	"testing"
	"time"
	"unicode/utf8"

	"modality/api"
	"modality/store"
)

// rowTable is the document's table: number, name, VR, and what is asked besides.
const rowTable = `0 ID SH key
1 Accession SH any
2 Procedure SH needed
3 ProcedureDesc LO any
4 Study UI needed
5 PatientName PN needed
6 PatientID LO needed
7 Issuer LO any
8 Birth DA birth
9 Sex CS sex
10 Referrer PN any
11 Modality CS needed
12 Station AE needed
13 StationName SH any
14 Location SH any
15 Date DA day
16 Time TM second
17 Performer PN any
18 Desc LO any`

type fieldRule struct{ name, vr, asked string }

func fieldRules() []fieldRule {
	var list []fieldRule
	for _, line := range strings.Split(rowTable, "\n") {
		w := strings.Fields(line)
		list = append(list, fieldRule{w[1], w[2], w[3]})
	}
	return list
}

var (
	formUI   = regexp.MustCompile(`^(0|[1-9][0-9]*)(\.(0|[1-9][0-9]*))*$`)
	formCS   = regexp.MustCompile(`^[A-Z0-9 _]{0,15}[A-Z0-9_]$`)
	formAE   = regexp.MustCompile(`^[ -\[\]-~]{0,15}[!-\[\]-~]$`)
	formTM   = regexp.MustCompile(`^([01][0-9]|2[0-3])([0-5][0-9]([0-5][0-9]|60)?)?$`)
	formText = regexp.MustCompile(`^[^\x00-\x1f\x7f-\x{9f}\\]*[^\x00-\x20\x7f-\x{9f}\\]$`)
	formKey  = regexp.MustCompile(`^[ -~]*$`)
)

func isDate(s string) bool {
	d, err := time.Parse("20060102", s)
	return err == nil && d.Year() > 0
}

func isName(s string) bool {
	groups := strings.Split(s, "=")
	for _, g := range groups {
		if utf8.RuneCountInString(g) > 64 || strings.Count(g, "^") > 4 {
			return false
		}
	}
	return len(groups) <= 3 && formText.MatchString(s)
}

func isText(s string, most int) bool {
	return utf8.ValidString(s) && utf8.RuneCountInString(s) <= most && formText.MatchString(s)
}

// ofVR says once more, by other means, which texts a row may have of a VR.
func ofVR(vr, s string) bool {
	switch {
	case s == "":
		return true
	case vr == "SH":
		return isText(s, 16)
	case vr == "LO":
		return isText(s, 64)
	case vr == "PN":
		return utf8.ValidString(s) && isName(s)
	case vr == "UI":
		return len(s) <= 64 && formUI.MatchString(s)
	case vr == "CS":
		return formCS.MatchString(s)
	case vr == "AE":
		return formAE.MatchString(s)
	case vr == "DA":
		return isDate(s)
	}
	return formTM.MatchString(s)
}

func (r fieldRule) takes(s string) bool {
	if !ofVR(r.vr, s) {
		return false
	}
	switch r.asked {
	case "key":
		return s != "" && formKey.MatchString(s)
	case "needed", "day":
		return s != ""
	case "sex":
		return strings.Contains("|M|F|O||", "|"+s+"|")
	case "second":
		return len(s) == 6
	}
	return true
}

// someTexts are texts of every kind, most of them wrong somewhere.
func someTexts() []string {
	list := []string{
		"", " ", "a", "A", "A1", "a ", " a", "a\x00", "a  ", "  ", "A_B", "CT 1", "a\\b", "\\", "a\tb", "a\nb", "a\x7f", "\x1fa", "~", "\x80",
		"\xff", "a\xc3", "é", "é\u0085", "\u0080", "\u00a0", "日本", "\ufffd", "\ud7ff", "a=b", "a=b=c", "a=b=c=d", "=", "==", "===", "^", "a^b^c^d^e", "a^b^c^d^e^f", "a^^^^^", "=^^^^^",
		"1", "0", "1.2", "1.02", "1..2", ".1", "1.", "0.0", "00", "1.0", "1 ", "1\x00", "-1", "1.2.840.10008.1.2",
		"M", "F", "O", "U", "m", "MF", "M ", " M", "MM",
		"20260701", "20260230", "20240229", "20230229", "21000229", "20000229", "00010101", "00000101", "99991231", "20261301", "20260001", "20260100", "20260132", "2026070", "202607011", "2026-7-1", "2026.07.01", "20260701 ", " 20260701",
		"083000", "0830", "08", "0830000", "240000", "236060", "235960", "235961", "236000", "083000.1", "08300", "08300 ", "083060", " 83000", "ab3000", "083000\x00", "08:30",
	}
	for _, n := range []int{15, 16, 17, 20, 21, 63, 64, 65, 66, 255, 256, 257} {
		list = append(list, long("A", n), long("é", n), long("1", n), long("日", n)+"=", long("\U0001f600", n), long("\xff", n))
	}
	for b := range 256 {
		list = append(list, "A"+string([]byte{byte(b)})+"A")
	}
	return append(list, long("A", 70000), long("1", 70000), long("a", 64)+"="+long("b", 64)+"="+long("c", 64), long("a", 64)+"="+long("b", 65))
}

// TestRowFields: the fields of a step are those of the table, in its order.
func TestRowFields(t *testing.T) {
	typ := reflect.TypeFor[api.Step]()
	rules := fieldRules()
	if typ.NumField() != len(rules)+1 || typ.Field(19).Name != "Status" {
		t.Fatal("P12.1: the table has other fields")
	}
	for i, r := range rules {
		if typ.Field(i).Name != r.name {
			t.Errorf("P12.1: field %d is %s", i, typ.Field(i).Name)
		}
	}
}

// TestRowTexts: P12.1: every text in every field, beside a second reading of the table.
func TestRowTexts(t *testing.T) {
	for field, rule := range fieldRules() {
		taken := 0
		for _, text := range someTexts() {
			for _, s := range []api.Step{row("A1"), full("A1")} {
				set(&s, field, text)
				want := api.ErrStoreRow
				if rule.takes(text) {
					want = api.OK
					taken++
				}
				if err := store.Row(s); !is(err, want, field) {
					t.Fatalf("P12.1: %s %.80q: %v, not %d", rule.name, text, err, want)
				}
			}
		}
		if taken == 0 {
			t.Errorf("P12.1: no text was good for %s", rule.name)
		}
	}
}

func TestRowStatus(t *testing.T) {
	for status := -300; status < 600; status++ {
		want := api.OK
		if status < 1 || status > 4 {
			want = api.ErrStoreRow
		}
		if err := store.Row(rowOf("A1", status)); !is(err, want, 19) {
			t.Fatalf("P12.1: status %d: %v", status, err)
		}
	}
}

// TestRowFirst: of two fields that may not be the first is told, whatever they have.
func TestRowFirst(t *testing.T) {
	for i := range 20 {
		for k := i; k < 20; k++ {
			s := full("A1")
			for _, field := range []int{k, i} {
				if field == 19 {
					s.Status = 7
				} else {
					set(&s, field, "\\")
				}
			}
			refused(t, "P12.1", store.Row(s), i, api.ErrStoreRow)
		}
	}
	refused(t, "P12.1: a plain step", store.Row(api.Step{}), 0, api.ErrStoreRow)
	for _, s := range []api.Step{row("A1"), full("A1"), full(" !~ ~")} {
		if err := store.Row(s); err != nil {
			t.Errorf("P12.1: %s: %v", shown(s), err)
		}
	}
}

// TestRowSaid: the document's example 2.
func TestRowSaid(t *testing.T) {
	for _, x := range []struct {
		field int
		text  string
	}{{16, "0830"}, {15, "20260230"}, {0, ""}, {9, "X"}, {5, "a=b=c=d"}, {3, "a "}} {
		s := row("A1")
		set(&s, x.field, x.text)
		refused(t, "P12.1", store.Row(s), x.field, api.ErrStoreRow)
	}
}
