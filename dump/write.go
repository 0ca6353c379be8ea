package dump

import (
	"strings"

	"modality/api"
	"modality/dict"
)

// step is how much further in the lines of what is inside a node begin.
const step = "  "

// writeNodes lays down the lines of nodes that stand beside one another. A text that is too long stays so: it is not gone on with.
func writeNodes(b []byte, nodes []api.Node, indent string) []byte {
	for i := 0; i < len(nodes) && len(b) <= api.MaxDump; {
		next := dict.Next(nodes, i)
		b = writeNode(b, nodes[i], nodes[i+1:next], indent)
		i = next
	}
	return b
}

// writeNode lays down the lines of one node: its name, and behind that its value or what is inside it.
func writeNode(b []byte, n api.Node, inside []api.Node, indent string) []byte {
	b = append(b, indent+nameOf(n)+" "...)
	switch {
	case n.VR != api.VRSQ && n.VR != api.VRItem:
		b = append(b, valueText(n.VR, n.Value)...)
	case n.N == 0:
		b = append(b, "{}"...)
	default:
		b = append(b, "{\n"...)
		b = writeNodes(b, inside, indent+step)
		b = append(b, indent+"}"...)
	}
	return append(b, '\n')
}

func nameOf(n api.Node) string {
	if n.VR == api.VRItem {
		return itemWord
	}
	return dict.PrintTag(n.Tag) + " " + dict.VRWord(n.VR)
}

// valueText writes a Value in its VR's own form, or, where that can't say it, as bytes.
func valueText(v api.VR, value string) string {
	f := forms()[v]
	pieces := dict.Split(v, value)
	if value == "" && f.token == quotedToken {
		pieces = []string{""}
	}
	told := len(pieces) > 0
	for i, piece := range pieces {
		text, ok := f.write(piece, f.bits)
		pieces[i], told = text, told && ok
	}
	if !told {
		text, _ := writeHex(value, 0)
		return text
	}
	return strings.Join(pieces, between)
}
