package dataset_test

import (
	"math/rand"
	"slices"
	"strings"
	"testing"

	"modality/api"
	"modality/dataset"
	"modality/dict"
)

// wantImplied fails if what comes back is told otherwise.
func wantImplied(t *testing.T, nodes, want []api.Node) {
	t.Helper()
	if got, err := dataset.Implied(nodes); err != nil || !slices.Equal(got, want) || (got == nil) != (len(want) == 0) {
		t.Fatalf("P6.4: %s: %s, %v; want %s", shown(nodes), shown(got), err, shown(want))
	}
}

func TestImpliedSaid(t *testing.T) {
	for _, c := range []struct{ nodes, want []api.Node }{
		{nil, nil},
		{list(), nil},
		{list(ct), list(ct)},
		{list(element(codeTag, api.VRCS, "CT1")), list(element(codeTag, api.VRCS, "CT1"))},
		{list(element(privateTag, api.VRLO, "abc")), list(element(privateTag, api.VRUN, "abc "))},
		{list(element(privateTag, api.VRLO, "ab")), list(element(privateTag, api.VRUN, "ab"))},
		{list(element(privateTag, api.VRLO, "")), list(element(privateTag, api.VRUN, ""))},
		{list(element(privateTag, api.VRUI, "1.2")), list(element(privateTag, api.VRUN, "1.2\x00"))},
		{list(element(privateTag, api.VRUS, " \x00")), list(element(privateTag, api.VRUN, " \x00"))},
		{list(element(creatorTag, api.VRUN, "AB C")), list(element(creatorTag, api.VRLO, "AB C"))},
		{list(element(creatorTag, api.VRUN, "AB \x00")), list(element(creatorTag, api.VRLO, "AB"))},
		{list(element(creatorTag, api.VRUS, " \x00")), list(element(creatorTag, api.VRLO, ""))},
		{list(element(creatorTag, api.VRUI, "1.2")), list(element(creatorTag, api.VRLO, "1.2"))},
		{list(element(creatorTag, api.VRLO, "X")), list(element(creatorTag, api.VRLO, "X"))},
		{list(element(0x001900FF, api.VRSH, "X")), list(element(0x001900FF, api.VRLO, "X"))},
		{list(element(0x00190100, api.VRSH, "X")), list(element(0x00190100, api.VRUN, "X "))},
		{list(element(0x0019000F, api.VRSH, "X")), list(element(0x0019000F, api.VRUN, "X "))},
		{list(sequence(privateTag, 0)), list(sequence(privateTag, 0))},
		{list(sequence(creatorTag, 1), item(1), element(creatorTag, api.VRUN, "A ")), list(sequence(creatorTag, 1), item(1), element(creatorTag, api.VRLO, "A"))},
		{list(sequence(stepsTag, 1), item(2), ct, element(privateTag, api.VRPN, "a")), list(sequence(stepsTag, 1), item(2), ct, element(privateTag, api.VRUN, "a "))},
		{list(element(privateTag, api.VRUT, strings.Repeat("x", 65533))), list(element(privateTag, api.VRUN, strings.Repeat("x", 65533)+" "))},
		{many(4096), many(4096)},
		{tooLong(2), tooLong(2)},
	} {
		wantImplied(t, c.nodes, c.want)
	}
}

func TestImpliedUnformed(t *testing.T) {
	for at, nodes := range [][]api.Node{
		list(item(0)),
		list(ct, ct),
		list(sequence(stepsTag, 2), item(0)),
		append(deep(2)[:3], sequence(stepsTag, 1)),
	} {
		if got, err := dataset.Implied(nodes); got != nil || !isUnformed(err, at) {
			t.Errorf("P6.4: %s: %s, %v", shown(nodes), shown(got), err)
		}
	}
	if got, err := dataset.Implied(many(4097)); got != nil || !isUnformed(err, 4096) {
		t.Errorf("P6.4: one node too many: %d, %v", len(got), err)
	}
}

// TestBack holds P6.5: there and back.
func TestBack(t *testing.T) {
	t.Parallel()
	r := rand.New(rand.NewSource(66))
	for range 10000 {
		nodes := someSet(r)
		if len(nodes) > api.MaxNodes {
			continue
		}
		implied := modelImplied(nodes)
		wantImplied(t, nodes, implied)
		wantImplied(t, implied, implied)
		holdBack(t, nodes, api.Explicit, nodes)
		holdBack(t, nodes, api.Implicit, implied)
	}
}

func modelImplied(nodes []api.Node) []api.Node {
	want := slices.Clone(nodes)
	for i, n := range nodes {
		if _, known := dict.Find(n.Tag); known || n.VR == api.VRSQ || n.VR == api.VRItem {
			continue
		}
		value := n.Value
		if len(value)%2 == 1 && n.VR == api.VRUI {
			value += "\x00"
		} else if len(value)%2 == 1 {
			value += " "
		}
		want[i].VR = api.VRUN
		if n.Tag>>16%2 == 1 && n.Tag&0xFFFF >= 0x10 && n.Tag&0xFFFF <= 0xFF {
			want[i].VR = api.VRLO
			value = strings.TrimRight(value, " \x00")
		}
		want[i].Value = value
	}
	return want
}

func holdBack(t *testing.T, nodes []api.Node, s api.Syntax, want []api.Node) {
	t.Helper()
	b, err := dataset.Encode(nodes, s)
	if err != nil {
		t.Fatalf("P6.1: %s: %v", shown(nodes), err)
	}
	if got, err := dataset.Decode(b, s); err != nil || !slices.Equal(got, want) {
		t.Fatalf("P6.5: %s in syntax %d comes back as %s, %v; want %s", shown(nodes), s, shown(got), err, shown(want))
	}
}

// TestReadBack: what was read, from whatever bytes, is laid down and read again as the same (P6.5).
func TestReadBack(t *testing.T) {
	t.Parallel()
	r := rand.New(rand.NewSource(67))
	taken := 0
	for range 40000 {
		s := bothSyntaxes[r.Intn(2)]
		nodes, err := dataset.Decode(spoiled(r, inSomeForm(r, someSet(r), s)), s)
		if err != nil {
			continue
		}
		taken++
		holdBack(t, nodes, s, nodes)
		if s == api.Implicit {
			wantImplied(t, nodes, nodes)
		}
	}
	if taken < 8000 {
		t.Errorf("only %d were read", taken)
	}
}

// TestReadLonger: what was read may have too many bytes in the one form.
func TestReadLonger(t *testing.T) {
	// Each of the sequences inside has a head of 8 bytes there, and of 12 with its letters.
	steps := list(sequence(stepsTag, 1000))
	for range 1000 {
		steps = append(steps, item(1), sequence(stepsTag, 0))
	}
	inside := writer{}.forest(forest(steps)[0].kids)
	room := 1<<20 - 12 - len(inside)
	var nodes []api.Node
	for i := 0; room > 0; i++ {
		size := min(room-12, 65534)
		nodes = append(nodes, element(api.Tag(0x00190100+i), api.VRUN, strings.Repeat("x", size)))
		room -= 12 + size
	}
	w := writer{explicit: true}
	b := append(w.forest(forest(nodes)), w.head(stepsTag, "UN", uint32(len(inside)))...)
	b = append(b, inside...)
	nodes = append(nodes, steps...)
	wantNodes(t, b, api.Explicit, nodes)
	wantUnwritten(t, nodes, api.Explicit, func(err error) bool { return is(err, api.ErrSetLong, 1<<20) })
	holdBack(t, nodes, api.Implicit, nodes)
}
