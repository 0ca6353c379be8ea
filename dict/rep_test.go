package dict_test

import (
	"strings"
	"testing"

	"modality/api"
	"modality/dict"
)

func TestAbout(t *testing.T) {
	infos := documentInfos(t)
	if len(infos) != 28 {
		t.Fatalf("the document has %d VRs", len(infos))
	}
	for v, want := range infos {
		if got, ok := dict.About(v); got != want || !ok {
			t.Errorf("P3.5: About(%d) = %+v, %v, want %+v", v, got, ok, want)
		}
		if dict.VRWord(v) != want.Name || dict.Text(v) != want.Text || dict.Unified(v) != want.Chars {
			t.Errorf("P3.5: %s: %q, %v, %v", want.Name, dict.VRWord(v), dict.Text(v), dict.Unified(v))
		}
		if got, err := dict.VROf(want.Name); got != v || err != nil {
			t.Errorf("P3.5: VROf(%q) = %d, %v", want.Name, got, err)
		}
	}
	for _, v := range noVRs {
		if got, ok := dict.About(v); got != (api.VRInfo{}) || ok || dict.VRWord(v) != "" || dict.Text(v) || dict.Unified(v) {
			t.Errorf("P3.5: VR %d: %+v, %v, %q", v, got, ok, dict.VRWord(v))
		}
	}
}

// TestVROf reads every word of two letters, and some that have more or fewer.
func TestVROf(t *testing.T) {
	words := []string{"", " ", "A", "AEX", "AE ", " AE", "\x00", "ÄE", "UNKNOWN", "\xff\xff"}
	for a := range 256 {
		for b := range 256 {
			words = append(words, string([]byte{byte(a), byte(b)}))
		}
	}
	for _, w := range words {
		want, known := vrNumbers[w]
		got, err := dict.VROf(w)
		if got != want || known && err != nil || !known && !is(err, api.ErrDictVR, 0) {
			t.Errorf("P3.5: VROf(%q) = %d, %v", w, got, err)
		}
	}
}

func TestTrim(t *testing.T) {
	infos := documentInfos(t)
	for _, v := range append(allVRs(), noVRs...) {
		for in, want := range map[string]string{"": "", " ": "", "\x00": "", "\x00 \x00 ": "", "a": "a", "a ": "a", "a\x00": "a", "a \x00 \x00": "a", " a ": " a", "a b": "a b", "\x00a\x00": "\x00a", "a\t": "a\t", "a\\ ": "a\\", "ä\u00a0": "ä\u00a0", "\xff ": "\xff", "a\u2003 ": "a\u2003"} {
			if !infos[v].Text {
				want = in
			}
			if got := dict.Trim(v, in); got != want {
				t.Errorf("P3.6: Trim(%d, %q) = %q, want %q", v, in, got, want)
			}
		}
	}
}

func TestPad(t *testing.T) {
	infos := documentInfos(t)
	for _, v := range append(allVRs(), noVRs...) {
		pad := string([]byte{infos[v].Pad})
		for in, add := range map[string]string{"": "", "a": pad, "ab": "", "abc": pad, "ä": "", "äb": pad, " ": pad, "\xff": pad, strings.Repeat("x", 65535): pad} {
			if got := dict.Pad(v, in); got != in+add {
				t.Errorf("P3.6: Pad(%d, %.20q) = %.20q", v, in, got)
			}
		}
	}
}
