package dict_test

import (
	"math/rand"
	"slices"
	"strings"
	"testing"

	"modality/api"
	"modality/dict"
)

func TestTagsBack(t *testing.T) {
	for tag := range neighbours(t) {
		if got, err := dict.ParseTag(dict.PrintTag(tag)); got != tag || err != nil {
			t.Errorf("P3.12: %08X comes back as %08X, %v", tag, got, err)
		}
	}
	for e := range dict.Entries() {
		if got, err := dict.ParseTag(e.Keyword); got != e.Tag || err != nil {
			t.Errorf("P3.12: %s comes back as %08X, %v", e.Keyword, got, err)
		}
		if found, ok := dict.Find(e.Tag); found != e || !ok {
			t.Errorf("P3.12: %s is found as %v, %v", e.Keyword, found, ok)
		}
	}
}

func TestVRsBack(t *testing.T) {
	for v := api.VR(-3); v < 40; v++ {
		if word := dict.VRWord(v); word != "" {
			if got, err := dict.VROf(word); got != v || err != nil {
				t.Errorf("P3.12: VR %d comes back as %d, %v", v, got, err)
			}
		}
	}
}

// texts gives texts that padding and parting hang on.
func texts() []string {
	random := rand.New(rand.NewSource(12))
	list := []string{"", " ", "\x00", "a", "ab", "a ", "a\x00"}
	for range 500 {
		b := make([]byte, random.Intn(12))
		for i := range b {
			b[i] = "ab \x00\\\xff"[random.Intn(6)]
		}
		list = append(list, string(b))
	}
	return list
}

func TestPaddingBack(t *testing.T) {
	for _, v := range append(allVRs(), noVRs...) {
		for _, value := range texts() {
			padded := dict.Pad(v, value)
			if len(padded)%2 != 0 {
				t.Errorf("P3.12: Pad(%d, %q) = %q", v, value, padded)
			}
			back := dict.Trim(v, padded)
			if dict.Trim(v, value) == value && (dict.Text(v) || len(value)%2 == 0) && back != value {
				t.Errorf("P3.12: %d: %q comes back as %q", v, value, back)
			}
		}
	}
}

func TestValuesBack(t *testing.T) {
	random := rand.New(rand.NewSource(13))
	list := texts()
	for _, v := range allVRs() {
		for range 300 {
			var values []string
			for range 1 + random.Intn(4) {
				s := list[random.Intn(len(list))]
				if info, _ := dict.About(v); info.Multi && info.Text {
					s = strings.ReplaceAll(s, "\\", "")
				} else if info.Multi {
					s = (s + "12345678")[:info.Unit]
				}
				values = append(values, s)
			}
			joined, err := dict.Join(v, values)
			if err != nil || joined == "" {
				continue
			}
			if got := dict.Split(v, joined); !slices.Equal(got, values) {
				t.Errorf("P3.12: %d: %q comes back as %q", v, values, got)
			}
		}
	}
	if joined, err := dict.Join(api.VRLO, []string{""}); joined != "" || err != nil || dict.Split(api.VRLO, joined) != nil {
		t.Errorf("P3.12: one value without bytes: %q, %v", joined, err)
	}
}
