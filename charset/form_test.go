package charset_test

import (
	"math/rand"
	"slices"
	"testing"

	"modality/api"
	"modality/charset"
)

// wrongPlace is P4.6 told once more, from the top down; -1: none.
func wrongPlace(nodes []api.Node) int {
	for i := 0; i < len(nodes); {
		next, ok := modelElement(nodes, i)
		if !ok {
			return next
		}
		i = next
	}
	return -1
}

// modelElement tells the place behind the element at i, or the wrong one.
func modelElement(nodes []api.Node, i int) (place int, ok bool) {
	if i == len(nodes) {
		return i, false
	}
	n := nodes[i]
	if n.Tag == api.TagItem || n.VR == api.VRItem || n.N < 0 || n.N > 0 && n.VR != api.VRSQ {
		return i, false
	}
	return modelMany(nodes, i+1, n.N, modelItem)
}

func modelItem(nodes []api.Node, i int) (place int, ok bool) {
	if i == len(nodes) {
		return i, false
	}
	n := nodes[i]
	if n.Tag != api.TagItem || n.VR != api.VRItem || n.N < 0 {
		return i, false
	}
	return modelMany(nodes, i+1, n.N, modelElement)
}

func modelMany(nodes []api.Node, i, count int, one func([]api.Node, int) (int, bool)) (place int, ok bool) {
	for range count {
		if i, ok = one(nodes, i); !ok {
			return i, false
		}
	}
	return i, true
}

// holdForm holds both calls that look at a list's form against the model.
func holdForm(t *testing.T, nodes []api.Node) {
	t.Helper()
	at := wrongPlace(nodes)
	for name, call := range map[string]func([]api.Node) ([]api.Node, error){
		"Unify":   charset.Unify,
		"Express": func(nodes []api.Node) ([]api.Node, error) { return charset.Express(nodes, "") },
	} {
		got, err := call(nodes)
		if at < 0 && (err != nil || !slices.Equal(got, nodes)) || at >= 0 && (!is(err, api.ErrCharNodes, at) || got != nil) {
			t.Fatalf("P4.6: %s(%v): %v, %v; want %d", name, nodes, got, err, at)
		}
	}
}

// shapes has nodes that may stand, and such that never may.
var shapes = []api.Node{
	element(0x00100020, api.VRLO, "x"),
	element(0, api.VRNone, "\xFF"),
	{Tag: 0x00100020, VR: api.VRLO, N: 1},
	{Tag: 0x00100020, VR: api.VRLO, N: -1},
	sequence(0x00400100, 0),
	sequence(0x00400100, 1),
	sequence(0x00400100, 2),
	sequence(0x00400100, -1),
	item(0),
	item(1),
	item(2),
	item(-1),
	{Tag: api.TagItem, VR: api.VRLO},
	{Tag: api.TagItem, VR: api.VRSQ, N: 1},
	{Tag: 0x00400100, VR: api.VRItem, N: 1},
}

func TestForms(t *testing.T) {
	lists := [][]api.Node{nil}
	for i := 0; i < len(lists); i++ {
		holdForm(t, lists[i])
		if len(lists[i]) < 4 {
			for _, n := range shapes {
				lists = append(lists, append(slices.Clone(lists[i]), n))
			}
		}
	}
}

// TestLongForms: lists that are right up to a place that goes up to their end.
func TestLongForms(t *testing.T) {
	rng := rand.New(rand.NewSource(46))
	whole := 0
	for range 20000 {
		var nodes []api.Node
		for range 25 {
			next := append(slices.Clone(nodes), shapes[rng.Intn(len(shapes))])
			if at := wrongPlace(next); at < 0 || at == len(next) {
				nodes = next
			}
		}
		if wrongPlace(nodes) < 0 {
			whole++
		}
		holdForm(t, nodes)
		holdForm(t, append(nodes, shapes[rng.Intn(len(shapes))]))
	}
	if whole < 100 {
		t.Errorf("only %d lists were whole", whole)
	}
}

// TestLooseForms: nothing beside the form counts.
func TestLooseForms(t *testing.T) {
	nodes := []api.Node{
		element(0x00400100, -7, "any\x00"),
		element(0x00100020, api.VRLO, "b"),
		element(0x00100020, api.VRLO, "c"),
		element(0x00080001, 1<<40, "\x1B"),
		{Tag: 0xFFFFFFFF, VR: api.VRSQ, N: 2, Value: "a sequence's"},
		{Tag: api.TagItem, VR: api.VRItem, N: 1, Value: "an item's \xFF"},
		element(0xFFFEE00D, api.VRUI, "1.2 "),
		item(0),
		element(0x00020010, api.VROB, string(make([]byte, api.MaxValue+3))),
		element(0, 0, ""),
	}
	holdForm(t, nodes)
}

// TestHugeNumbers: what a node says that there is need not be there.
func TestHugeNumbers(t *testing.T) {
	const most, least = 1<<63 - 1, -1 << 63
	for _, nodes := range [][]api.Node{
		{sequence(0x00400100, most)},
		{sequence(0x00400100, most), item(most)},
		{sequence(0x00400100, most), item(0), item(0)},
		{sequence(0x00400100, most), element(0x00100020, api.VRLO, "")},
		{sequence(0x00400100, 1), item(most), element(0x00100020, api.VRLO, "")},
		{sequence(0x00400100, 1), item(least)},
		{sequence(0x00400100, least)},
		{{Tag: 0x00100020, VR: api.VRLO, N: most}},
	} {
		at := len(nodes)
		switch last := nodes[at-1]; {
		case last.N < 0 || last.VR == api.VRLO && (last.N > 0 || nodes[0].N == most):
			at--
		}
		if _, err := charset.Unify(nodes); !is(err, api.ErrCharNodes, at) {
			t.Errorf("P4.6: Unify(%v): %v, want %d", nodes, err, at)
		}
		if _, err := charset.Express(nodes, ""); !is(err, api.ErrCharNodes, at) {
			t.Errorf("P4.6: Express(%v): %v, want %d", nodes, err, at)
		}
	}
}

// TestDeep: depth and number are no reason of Unify's.
func TestDeep(t *testing.T) {
	nodes := []api.Node{named("ISO_IR 144")}
	for range 30000 {
		nodes = append(nodes, sequence(0x00400100, 1), item(1))
	}
	want := append(slices.Clone(nodes[1:]), name("Л"))
	nodes = append(nodes, name("\xBB"))
	if got, err := charset.Unify(nodes); err != nil || !slices.Equal(got, want) {
		t.Errorf("P4.7: a deep list: %d nodes, %v", len(got), err)
	}
	if _, err := charset.Unify(nodes[:len(nodes)-1]); !is(err, api.ErrCharNodes, len(nodes)-1) {
		t.Errorf("P4.6: a deep list without its end: %v", err)
	}
}
