package dump_test

import (
	"math/rand"
	"strings"
	"testing"

	"modality/api"
	"modality/dict"
	"modality/dump"
)

// TestThereAndBack: what Print writes is read as the same, and written again as the same text.
func TestThereAndBack(t *testing.T) {
	t.Parallel()
	r := rand.New(rand.NewSource(6))
	for range 8000 {
		nodes := someSet(r)
		holdBack(t, nodes)
		text, _ := dump.Print(nodes)
		back, _ := dump.Parse(text)
		if again, err := dump.Print(back); err != nil || again != text {
			t.Fatalf("P7.3: %.400q is written again as %.400q, %v", text, again, err)
		}
	}
}

// TestTyped: every layout of a data set is read as it.
func TestTyped(t *testing.T) {
	t.Parallel()
	r := rand.New(rand.NewSource(7))
	for range 8000 {
		nodes := someSet(r)
		wantNodes(t, typed(r, nodes), nodes)
	}
}

// TestAllEntries: every attribute of the dictionary that a data set may have, by tag and by keyword, with its VR and without.
func TestAllEntries(t *testing.T) {
	for e := range dict.Entries() {
		n := element(e.Tag, e.VR, "")
		if dict.Formed(list(n)) != nil {
			continue
		}
		value := "x"
		if e.VR == api.VRSQ {
			value = "{}"
		}
		for _, name := range []string{e.Keyword, dict.PrintTag(e.Tag), strings.ToLower(dict.PrintTag(e.Tag))} {
			wantNodes(t, name+" "+value, list(n))
			wantNodes(t, name+" "+dict.VRWord(e.VR)+" "+value, list(n))
		}
		holdBack(t, list(n))
	}
}

// TestLongBack: what is read may be too long to be written: a text that says it shorter.
func TestLongBack(t *testing.T) {
	var text strings.Builder
	for i := range 12 {
		text.WriteString(dict.PrintTag(privateTag+api.Tag(i)) + " LO \"" + strings.Repeat("\xFF", 65534) + "\"\n")
	}
	nodes, err := dump.Parse(text.String())
	if err != nil || len(nodes) != 12 {
		t.Fatalf("P7.2: %s, %v", shown(nodes), err)
	}
	wantUnwritten(t, nodes, isLong)
}
