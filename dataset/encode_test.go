package dataset_test

import (
	"math"
	"math/rand"
	"strings"
	"testing"

	"modality/api"
	"modality/dataset"
	"modality/dict"
)

// TestEncodeSaid lays down the document's examples, and what they leave open.
func TestEncodeSaid(t *testing.T) {
	for _, c := range []struct {
		nodes              []api.Node
		implicit, explicit string
	}{
		{nil, "", ""},
		{list(), "", ""},
		{list(ct), "08 00 60 00 02 00 00 00 43 54", "08 00 60 00 43 53 02 00 43 54"},
		{list(element(codeTag, api.VRCS, "CT1")), "08 00 60 00 04 00 00 00 43 54 31 20", "08 00 60 00 43 53 04 00 43 54 31 20"},
		{list(element(codeTag, api.VRCS, "")), "08 00 60 00 00 00 00 00", "08 00 60 00 43 53 00 00"},
		{list(element(api.TagInstance, api.VRUI, "1.2")), "08 00 18 00 04 00 00 00 31 2E 32 00", "08 00 18 00 55 49 04 00 31 2E 32 00"},
		{list(element(0x00280010, api.VRUS, "\x01\x02")), "28 00 10 00 02 00 00 00 01 02", "28 00 10 00 55 53 02 00 01 02"},
		{list(element(0x7FE00010, api.VROW, "\x01\x02")), "E0 7F 10 00 02 00 00 00 01 02", "E0 7F 10 00 4F 57 00 00 02 00 00 00 01 02"},
		{list(element(0x0040A160, api.VRUT, "a")), "40 00 60 A1 02 00 00 00 61 20", "40 00 60 A1 55 54 00 00 02 00 00 00 61 20"},
		{list(element(privateTag, api.VRUN, "ab")), "19 00 01 10 02 00 00 00 61 62", "19 00 01 10 55 4E 00 00 02 00 00 00 61 62"},
		{list(element(privateTag, api.VRSH, "a")), "19 00 01 10 02 00 00 00 61 20", "19 00 01 10 53 48 02 00 61 20"},
		{list(sequence(stepsTag, 1), item(1), ct),
			"40 00 00 01 12 00 00 00 · FE FF 00 E0 0A 00 00 00 · 08 00 60 00 02 00 00 00 43 54",
			"40 00 00 01 53 51 00 00 12 00 00 00 · FE FF 00 E0 0A 00 00 00 · 08 00 60 00 43 53 02 00 43 54"},
		{list(sequence(stepsTag, 0)), "40 00 00 01 00 00 00 00", "40 00 00 01 53 51 00 00 00 00 00 00"},
		{list(sequence(stepsTag, 2), item(0), item(0), element(idTag, api.VRSH, "P")),
			"40 00 00 01 10 00 00 00 · FE FF 00 E0 00 00 00 00 · FE FF 00 E0 00 00 00 00 · 40 00 01 10 02 00 00 00 50 20",
			"40 00 00 01 53 51 00 00 10 00 00 00 · FE FF 00 E0 00 00 00 00 · FE FF 00 E0 00 00 00 00 · 40 00 01 10 53 48 02 00 50 20"},
		{list(element(creatorTag, api.VRLO, "X"), sequence(privateTag, 0)),
			"19 00 10 00 02 00 00 00 58 20 · 19 00 01 10 FF FF FF FF · FE FF DD E0 00 00 00 00",
			"19 00 10 00 4C 4F 02 00 58 20 · 19 00 01 10 53 51 00 00 00 00 00 00"},
		// An unknown sequence in a known one: the known one's length has the end in it, and an unknown one's items' too.
		{list(sequence(stepsTag, 1), item(2), sequence(privateTag, 1), item(1), sequence(privateTag, 0), element(0x00191002, api.VRUN, "")),
			"40 00 00 01 38 00 00 00 · FE FF 00 E0 30 00 00 00 · 19 00 01 10 FF FF FF FF · FE FF 00 E0 10 00 00 00 · 19 00 01 10 FF FF FF FF · FE FF DD E0 00 00 00 00 · FE FF DD E0 00 00 00 00 · 19 00 02 10 00 00 00 00",
			"40 00 00 01 53 51 00 00 34 00 00 00 · FE FF 00 E0 2C 00 00 00 · 19 00 01 10 53 51 00 00 14 00 00 00 · FE FF 00 E0 0C 00 00 00 · 19 00 01 10 53 51 00 00 00 00 00 00 · 19 00 02 10 55 4E 00 00 00 00 00 00"},
	} {
		wantBytes(t, c.nodes, api.Implicit, raw(t, c.implicit))
		wantBytes(t, c.nodes, api.Explicit, raw(t, c.explicit))
	}
	if b, _ := dataset.Encode(list(), api.Explicit); b != nil {
		t.Error("P6.1: no nodes: an empty list, not nil")
	}
}

// TestEncodeVRs lays each VR down, as that of a tag that the dictionary does not know.
func TestEncodeVRs(t *testing.T) {
	for v := api.VRAE; v <= api.VRUT; v++ {
		for _, value := range []string{"", "ab", "abc", strings.Repeat("x", 65533), strings.Repeat("x", 65534)} {
			if v == api.VRSQ && value != "" || !dict.Text(v) && len(value)%2 == 1 {
				continue
			}
			nodes := list(element(privateTag, v, value))
			for _, s := range bothSyntaxes {
				wantBytes(t, nodes, s, inOneForm(nodes, s))
			}
		}
	}
}

// TestEncodeDictionary lays each attribute of the dictionary down.
func TestEncodeDictionary(t *testing.T) {
	for e := range dict.Entries() {
		nodes := list(element(e.Tag, e.VR, ""))
		for _, s := range bothSyntaxes {
			if g := e.Tag >> 16; g == 0 || g == 2 {
				wantUnwritten(t, nodes, s, func(err error) bool { return isUnformed(err, 0) })
				continue
			}
			wantBytes(t, nodes, s, inOneForm(nodes, s))
		}
	}
}

func TestEncodeSome(t *testing.T) {
	t.Parallel()
	r := rand.New(rand.NewSource(61))
	for range 10000 {
		nodes := someSet(r)
		if len(nodes) > api.MaxNodes {
			continue
		}
		for _, s := range bothSyntaxes {
			wantBytes(t, nodes, s, inOneForm(nodes, s))
		}
	}
}

func TestEncodeSyntax(t *testing.T) {
	for _, s := range []api.Syntax{0, 3, -1, math.MaxInt, math.MinInt} {
		for _, nodes := range [][]api.Node{nil, list(ct), list(item(0)), tooLong(1)} {
			wantUnwritten(t, nodes, s, func(err error) bool { return is(err, api.ErrSetSyntax, 0) })
		}
	}
}

// TestEncodeUnformed: what is no well-formed data set, at the place that layer 3 tells, ahead of its length.
func TestEncodeUnformed(t *testing.T) {
	for _, nodes := range [][]api.Node{
		list(item(0)),
		list(ct, ct),
		list(ct, element(0x00080050, api.VRSH, "1")),
		list(element(codeTag, api.VRLO, "CT")),
		list(element(codeTag, api.VRCS, "CT ")),
		list(element(privateTag, api.VRUN, "abc")),
		list(element(privateTag, api.VRNone, "")),
		list(element(0x00080000, api.VRUL, "abcd")),
		list(ct, sequence(stepsTag, 2), item(0)),
		list(sequence(stepsTag, -1)),
		list(sequence(stepsTag, 1), item(math.MaxInt), ct),
		list(ct, element(privateTag, api.VRUT, strings.Repeat("x", 65535))),
		deep(5),
		append(many(4096), element(0xFFFD0001, api.VRUN, "")),
		append(tooLong(1), item(0)),
	} {
		var at int
		if f, ok := dict.Formed(nodes).(*api.Fault); ok {
			at = f.At
		} else {
			t.Fatalf("a well-formed one among the others: %s", shown(nodes))
		}
		for _, s := range bothSyntaxes {
			wantUnwritten(t, nodes, s, func(err error) bool { return isUnformed(err, at) })
		}
	}
}

// deep gives a data set with items down to this depth.
func deep(depth int) []api.Node {
	var nodes []api.Node
	for range depth {
		nodes = append(nodes, sequence(stepsTag, 1), item(1))
	}
	return append(nodes, ct)
}

// many gives a data set of so many nodes.
func many(count int) []api.Node {
	var nodes []api.Node
	for i := range count {
		nodes = append(nodes, element(api.Tag(0x00190100+i), api.VRUN, ""))
	}
	return nodes
}

// tooLong gives a data set that has so many bytes more than may be laid down, in Implicit; every second of them can't be.
func tooLong(more int) []api.Node {
	var nodes []api.Node
	for i := range 16 {
		nodes = append(nodes, element(api.Tag(0x00191000+i), api.VRUN, strings.Repeat("x", 65528)))
	}
	nodes[3].Value = nodes[3].Value[:65528-2] + strings.Repeat("x", more+2)
	if more%2 != 0 {
		nodes[3].VR = api.VRUT
	}
	return nodes
}

// TestEncodeLength looks at both sides of the most bytes.
func TestEncodeLength(t *testing.T) {
	isLong := func(err error) bool { return is(err, api.ErrSetLong, 1<<20) }
	wantBytes(t, tooLong(-2), api.Implicit, inOneForm(tooLong(-2), api.Implicit))
	wantBytes(t, tooLong(-1), api.Implicit, inOneForm(tooLong(-1), api.Implicit))
	wantBytes(t, tooLong(0), api.Implicit, inOneForm(tooLong(0), api.Implicit))
	wantUnwritten(t, tooLong(1), api.Implicit, isLong)
	wantUnwritten(t, tooLong(2), api.Implicit, isLong)
	// In Explicit each of the sixteen heads has four bytes more.
	wantBytes(t, shortened(tooLong(0), 64), api.Explicit, inOneForm(shortened(tooLong(0), 64), api.Explicit))
	wantUnwritten(t, shortened(tooLong(0), 62), api.Explicit, isLong)
	wantUnwritten(t, tooLong(0), api.Explicit, isLong)
	// The end of a sequence that the dictionary does not know counts.
	open := append(shortened(tooLong(0), 16), sequence(0x00191010, 0))
	wantBytes(t, open, api.Implicit, inOneForm(open, api.Implicit))
	wantUnwritten(t, append(shortened(tooLong(0), 14), sequence(0x00191010, 0)), api.Implicit, isLong)
	// So does an item.
	with := append(shortened(tooLong(0), 16), sequence(stepsTag, 1), item(0))
	wantBytes(t, with, api.Implicit, inOneForm(with, api.Implicit))
	wantUnwritten(t, append(shortened(tooLong(0), 14), sequence(stepsTag, 1), item(0)), api.Implicit, isLong)
	// The most that nodes can have.
	most := many(4096)
	full := strings.Repeat("x", 65534)
	for i := range most {
		most[i].Value = full
	}
	for _, s := range bothSyntaxes {
		wantUnwritten(t, most, s, isLong)
	}
}

func shortened(nodes []api.Node, by int) []api.Node {
	nodes[5].Value = nodes[5].Value[by:]
	return nodes
}

// TestEncodeLimits: at the limits all is as below them.
func TestEncodeLimits(t *testing.T) {
	for _, nodes := range [][]api.Node{many(4096), deep(4), list(element(privateTag, api.VRUN, strings.Repeat("x", 65534)))} {
		for _, s := range bothSyntaxes {
			wantBytes(t, nodes, s, inOneForm(nodes, s))
			b, err := dataset.Encode(nodes, s)
			if err != nil {
				t.Fatal(err)
			}
			wantNodes(t, b, s, nodes)
		}
	}
}
