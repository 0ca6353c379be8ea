package dict_test

import (
	"fmt"
	"math/rand"
	"strings"
	"testing"

	"modality/api"
	"modality/dict"
)

func TestPrintTag(t *testing.T) {
	for tag, want := range map[api.Tag]string{0: "(0000,0000)", 0x00100020: "(0010,0020)", 0xFFFEE00D: "(FFFE,E00D)", 0xFFFFFFFF: "(FFFF,FFFF)", 0x0001ABCD: "(0001,ABCD)", 0xABCDEF09: "(ABCD,EF09)", 0x80000001: "(8000,0001)"} {
		if got := dict.PrintTag(tag); got != want {
			t.Errorf("P3.4: PrintTag(%08X) = %q", tag, got)
		}
	}
}

// TestTagForms reads random tags in every form, great and small letters mixed.
func TestTagForms(t *testing.T) {
	random := rand.New(rand.NewSource(3))
	mixed := func(s string) string {
		b := []byte(s)
		for i := range b {
			if random.Intn(2) == 0 {
				b[i] = strings.ToLower(s)[i]
			}
		}
		return string(b)
	}
	for range 2000 {
		tag := api.Tag(random.Uint32())
		if want := fmt.Sprintf("(%04X,%04X)", uint32(tag>>16), uint32(tag&0xFFFF)); dict.PrintTag(tag) != want {
			t.Errorf("P3.4: PrintTag: %q, want %q", dict.PrintTag(tag), want)
		}
		pair := fmt.Sprintf("%04X,%04X", uint32(tag>>16), uint32(tag&0xFFFF))
		for _, s := range []string{"(" + pair + ")", pair, strings.Replace(pair, ",", "", 1)} {
			for _, form := range []string{s, strings.ToLower(s), mixed(s)} {
				if got, err := dict.ParseTag(form); got != tag || err != nil {
					t.Errorf("P3.4: ParseTag(%q) = %08X, %v", form, got, err)
				}
			}
		}
	}
}

func TestParseTagWrong(t *testing.T) {
	for _, s := range []string{
		"", " ", "0", "1A", "0010002", "001000200", "0010,0020,", ",00100020", "0010 0020", "0010,002", "0010,00200", "010,00200", "00100,020", "(00100020)", "(0010,0020", "0010,0020)", "00100020)", "(00100020",
		"((0010,0020)", "[0010,0020]", "(0010;0020)", "(0010,0020]", " (0010,0020)", "(0010,0020) ", "(0010, 020)", "(+010,0020)", "(0x10,0020)", "0x100020", "+0100020", "-0100020", "0010_020", "(0010,00_0)", "(001G,0020)", "0010002G", "0010.0020", ")0010,0020(",
		"Patient ID", "PatientID ", " PatientID", "Patient_ID", "PatientID\x00", "Pätient", "ä", "\xff", "Patient\xff", "1PatientID", "9", "００１０００２０", "Ａ", "\u212a", "PatientName\n", "(PatientID)", "A-B",
	} {
		if got, err := dict.ParseTag(s); got != 0 || !is(err, api.ErrDictTag, 0) {
			t.Errorf("P3.4: ParseTag(%q) = %08X, %v", s, got, err)
		}
	}
	for _, s := range []string{"patientid", "PATIENTID", "PatientId", "A", "z", "Z", "a", "A1", "x0123456789", "DEADBEE", "DEADBEEF0", "DEADBEEG", "beefs", "PatientIDs", strings.Repeat("Q", 100000)} {
		if got, err := dict.ParseTag(s); got != 0 || !is(err, api.ErrDictUnknown, 0) {
			t.Errorf("P3.4: ParseTag(%.40q) = %08X, %v", s, got, err)
		}
	}
	for s, want := range map[string]api.Tag{"DEADBEEF": 0xDEADBEEF, "deadbeef": 0xDEADBEEF, "Acceeded": 0xACCEEDED, "00000000": 0, "(0000,0000)": 0, "CommandGroupLength": 0, "OverlayData": 0x60003000} {
		if got, err := dict.ParseTag(s); got != want || err != nil {
			t.Errorf("P3.4: ParseTag(%q) = %08X, %v", s, got, err)
		}
	}
}

// TestParseTagBytes puts every byte at every place of every form: only a digit, or what stands there already, may stand there.
func TestParseTagBytes(t *testing.T) {
	for _, s := range []string{"(0010,0020)", "0010,0020", "00100020"} {
		for i := range len(s) {
			for b := range 256 {
				form := s[:i] + string([]byte{byte(b)}) + s[i+1:]
				digit := strings.ContainsRune("0123456789ABCDEFabcdef", rune(b))
				good := s[i] == byte(b) || digit && strings.ContainsRune("0123456789", rune(s[i]))
				if _, err := dict.ParseTag(form); good != (err == nil) || err != nil && !is(err, code(form), 0) {
					t.Errorf("P3.4: ParseTag(%q): %v", form, err)
				}
			}
		}
	}
}

// code tells the number of a text that is no tag and no keyword.
func code(s string) api.Errno {
	const letters = "ABCDEFGHIJKLMNOPQRSTUVWXYZabcdefghijklmnopqrstuvwxyz"
	if s != "" && strings.Contains(letters, s[:1]) && strings.Trim(s, letters+"0123456789") == "" {
		return api.ErrDictUnknown
	}
	return api.ErrDictTag
}
