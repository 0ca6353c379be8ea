package dict_test

import (
	"strings"
	"sync"
	"testing"

	"modality/api"
	"modality/dict"
)

// knownTags tells, without masks, every tag that the dictionary knows.
func knownTags(t *testing.T) map[api.Tag]api.DictEntry {
	known := map[api.Tag]api.DictEntry{}
	for _, e := range documentEntries(t) {
		if e.Mask == 0xFFFFFFFF {
			known[e.Tag] = e
			continue
		}
		for i := range api.Tag(16) {
			known[e.Tag+i*0x00020000] = e
		}
	}
	return known
}

// neighbours gives the tags that lie near known ones, and near the edges of groups.
func neighbours(t *testing.T) map[api.Tag]int {
	tags := map[api.Tag]int{0: 1, 0xFFFFFFFF: 1, 0x80000000: 1, 0xFFFEE000: 1, 0xFFFEE00D: 1, 0xFFFEE0DD: 1}
	groups := map[api.Tag]int{0x601F: 1, 0x6020: 1, 0x6021: 1, 0x6040: 1, 0x7000: 1, 0xE000: 1, 0x5FFE: 1, 0x5FFF: 1, 0xFFFF: 1, 0xFFFE: 1, 0x6800: 1}
	for tag := range knownTags(t) {
		for bit := range 32 {
			tags[tag^1<<bit] = 1
		}
		for _, far := range []api.Tag{0, 1, 2, 0x100, 0x10000, 0x20000} {
			tags[tag+far], tags[tag-far] = 1, 1
		}
		groups[tag>>16] = 1
	}
	for g := range groups {
		for _, e := range []api.Tag{0, 1, 0x000F, 0x0010, 0x0011, 0x0020, 0x00FE, 0x00FF, 0x0100, 0x0FFF, 0x1000, 0x1001, 0x1010, 0xFFFF} {
			for _, at := range []api.Tag{g - 1, g, g + 1} {
				tags[at<<16|e] = 1
			}
		}
	}
	return tags
}

func TestFind(t *testing.T) {
	known := knownTags(t)
	if len(known) != 253+6*15 {
		t.Fatalf("%d tags are known", len(known))
	}
	for tag := range neighbours(t) {
		want, ok := known[tag]
		if got, found := dict.Find(tag); got != want || found != ok {
			t.Errorf("P3.2: Find(%08X) = %+v, %v, want %+v", tag, got, found, want)
		}
	}
}

// TestFindGroup looks at all elements of two groups, one of them an overlay's.
func TestFindGroup(t *testing.T) {
	known := knownTags(t)
	for _, g := range []api.Tag{0x0040, 0x601E} {
		for e := range api.Tag(0x10000) {
			want, ok := known[g<<16|e]
			if got, found := dict.Find(g<<16 | e); got != want || found != ok {
				t.Errorf("P3.2: Find(%04X%04X) = %+v, %v", g, e, got, found)
			}
		}
	}
}

func TestByKeyword(t *testing.T) {
	for _, e := range documentEntries(t) {
		if got, ok := dict.ByKeyword(e.Keyword); got != e.Tag || !ok {
			t.Errorf("P3.2: ByKeyword(%q) = %08X, %v", e.Keyword, got, ok)
		}
		for _, wrong := range []string{strings.ToLower(e.Keyword), strings.ToUpper(e.Keyword), e.Keyword + " ", " " + e.Keyword, e.Keyword + "s", e.Keyword[1:], e.Keyword[:len(e.Keyword)-1] + "\x00"} {
			if got, ok := dict.ByKeyword(wrong); got != 0 || ok {
				t.Errorf("P3.2: ByKeyword(%q) = %08X, %v", wrong, got, ok)
			}
		}
	}
	for _, wrong := range []string{"", "x", "00100020", "(0010,0020)", "\xff", strings.Repeat("a", 1<<20)} {
		if got, ok := dict.ByKeyword(wrong); got != 0 || ok {
			t.Errorf("P3.2: ByKeyword(%.40q) = %08X, %v", wrong, got, ok)
		}
	}
}

// TestByKeywordAtOnce asks for keywords from many sides at one time.
func TestByKeywordAtOnce(t *testing.T) {
	var group sync.WaitGroup
	for range 16 {
		group.Go(func() {
			if got, ok := dict.ByKeyword("PatientID"); got != 0x00100020 || !ok {
				t.Errorf("P3.2: %08X, %v", got, ok)
			}
		})
	}
	group.Wait()
}

// wantDefault tells the VR by the document's list, over the tags that are known.
func wantDefault(known map[api.Tag]api.DictEntry, tag api.Tag) api.VR {
	g, e := tag/65536, tag%65536
	switch {
	case g == 0xFFFE && e == 0xE000:
		return 29
	case g == 0xFFFE:
		return 0
	case e == 0:
		return 24
	case known[tag].VR != 0:
		return known[tag].VR
	case g&1 == 1 && e >= 0x10 && e < 0x100:
		return 11
	}
	return 25
}

func TestDefault(t *testing.T) {
	known := knownTags(t)
	for tag := range neighbours(t) {
		if got, want := dict.Default(tag), wantDefault(known, tag); got != want {
			t.Errorf("P3.3: Default(%08X) = %d, want %d", tag, got, want)
		}
	}
	for tag, want := range map[api.Tag]api.VR{
		0x00000000: api.VRUL, 0x00020000: api.VRUL, 0x00100000: api.VRUL, 0x00110000: api.VRUL, 0xFFFF0000: api.VRUL,
		0x00110010: api.VRLO, 0x001100FF: api.VRLO, 0x0011000F: api.VRUN, 0x00110100: api.VRUN, 0x00111001: api.VRUN, 0x00120010: api.VRUN,
		0x60010010: api.VRLO, 0x601E0010: api.VRUS, 0x601F0010: api.VRLO, 0x60200010: api.VRUN, 0xFFFF0010: api.VRLO, 0xFFFCFFFC: api.VROB,
		0xFFFEE000: api.VRItem, 0xFFFEE00D: api.VRNone, 0xFFFEE0DD: api.VRNone, 0xFFFE0000: api.VRNone, 0xFFFEE001: api.VRNone,
	} {
		if got := dict.Default(tag); got != want {
			t.Errorf("P3.3: Default(%08X) = %d, want %d", tag, got, want)
		}
	}
}
