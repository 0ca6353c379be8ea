package dump_test

import (
	"encoding/binary"
	"math"
	"math/rand"
	"strings"

	"modality/api"
	"modality/dict"
)

// someTags rise; the dictionary knows about half of them, and of each kind there are a few: creators, overlays, sequences, the edges.
var someTags = []api.Tag{
	0x00010001, 0x00030010, 0x00080001, 0x00080005, 0x00080016, 0x00080060, 0x00080119, 0x00080120, 0x00081110, 0x0009000F, 0x00090010, 0x000900FF, 0x00090100,
	0x00100010, 0x00100020, 0x001021C0, 0x00104000, 0x00186016, 0x00186020, 0x00189073, 0x00189219, 0x00191001, 0x00191002, 0x00280010, 0x00280030, 0x00400001, 0x00400100, 0x00400270, 0x00401001, 0x0040A160,
	0x00700022, 0x5FFF0010, 0x60000010, 0x60020010, 0x60023000, 0x60200010, 0x7FE00010, 0xFFFC0001, 0xFFFCFFFC, 0xFFFD0001, 0xFFFDFFFF,
}

// someSet gives a well-formed data set at random, with items down to the greatest depth.
func someSet(r *rand.Rand) []api.Node { return someElements(r, 0, r.Intn(7)) }

// someElements gives about so many elements that may stand in an item of this depth.
func someElements(r *rand.Rand, depth, about int) []api.Node {
	var nodes []api.Node
	for _, t := range someTags {
		if r.Intn(len(someTags)) < about {
			nodes = append(nodes, someElement(r, t, depth)...)
		}
	}
	return nodes
}

func someElement(r *rand.Rand, t api.Tag, depth int) []api.Node {
	v := api.VR(1 + r.Intn(int(api.VRUT)))
	if r.Intn(4) == 0 {
		v = api.VRSQ
	}
	if e, known := dict.Find(t); known {
		v = e.VR
	}
	if v != api.VRSQ {
		return []api.Node{element(t, v, someValue(r, v))}
	}
	nodes := []api.Node{sequence(t, 0)}
	for depth < api.MaxDepth && r.Intn(3) > 0 {
		inside := someElements(r, depth+1, r.Intn(5))
		nodes[0].N++
		nodes = append(append(nodes, item(countTop(inside))), inside...)
	}
	return nodes
}

func countTop(nodes []api.Node) int {
	count := 0
	for i := 0; i < len(nodes); i = dict.Next(nodes, i) {
		count++
	}
	return count
}

// someParts are what values of text are made of: bytes that are escaped, that are not, that are no UTF-8.
var someParts = []string{"A", "7", " ", "\x00", `\`, `"`, "\x1F", "\x7F", "\n", "é", "日", "😀", "\uFFFD", "\u0085", "\xFF", "\xC3", "\xE6\x97", "\xED\xA0\x80", "#", "{", "x41"}

func someValue(r *rand.Rand, v api.VR) string {
	if !dict.Text(v) {
		return someBytes(r, v)
	}
	var b strings.Builder
	for range r.Intn(6) {
		b.WriteString(someParts[r.Intn(len(someParts))])
	}
	return strings.TrimRight(b.String(), " \x00")
}

// someBytes gives values of whole units, and now and then others.
func someBytes(r *rand.Rand, v api.VR) string {
	b := make([]byte, r.Intn(4)*2)
	if unit := modelUnit(v); unit > 0 && r.Intn(4) > 0 {
		b = make([]byte, unit*r.Intn(4))
	}
	r.Read(b)
	if v == api.VRFL && len(b) >= 4 && r.Intn(2) == 0 {
		binary.LittleEndian.PutUint32(b, math.Float32bits([]float32{0, 1.5, -2, 1e-45, 3e38, 1e6, float32(math.Inf(1)), float32(math.NaN())}[r.Intn(8)]))
	}
	if v == api.VRFD && len(b) >= 8 && r.Intn(2) == 0 {
		binary.LittleEndian.PutUint64(b, math.Float64bits([]float64{math.Copysign(0, -1), 0.1, -2, 5e-324, 1e308, 1e21, math.Inf(-1), math.NaN()}[r.Intn(8)]))
	}
	return string(b)
}

// tree is a node with what is in it.
type tree struct {
	node api.Node
	kids []tree
}

// grow takes as many nodes of a well-formed list as are wanted (below 0: all), and gives the rest.
func grow(nodes []api.Node, wanted int) ([]tree, []api.Node) {
	var trees []tree
	for len(nodes) > 0 && wanted != 0 {
		one := tree{node: nodes[0]}
		one.kids, nodes = grow(nodes[1:], nodes[0].N)
		trees = append(trees, one)
		wanted--
	}
	return trees, nodes
}

func forest(nodes []api.Node) []tree {
	trees, _ := grow(nodes, -1)
	return trees
}
