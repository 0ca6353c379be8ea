package dataset

import (
	"modality/api"
	"modality/dict"
)

// sizeOf tells how many bytes nodes have when they are laid down, one behind the other: what stands in a node is counted with it, wherever it ends.
func sizeOf(nodes []api.Node, in syntax) int {
	size := 0
	for _, n := range nodes {
		size += in.headSize(n) + len(n.Value) + len(n.Value)%2
		if in.isUndefined(n) {
			size += shortHead
		}
	}
	return size
}

// write lays down the nodes that stand beside one another, each with what is in it.
func write(b []byte, nodes []api.Node, in syntax) []byte {
	for i := 0; i < len(nodes); {
		next := dict.Next(nodes, i)
		b = writeOne(b, nodes[i], nodes[i+1:next], in)
		i = next
	}
	return b
}

// writeOne lays down a node: it has a value, or nodes inside, or neither.
func writeOne(b []byte, n api.Node, inside []api.Node, in syntax) []byte {
	value := dict.Pad(n.VR, n.Value)
	length := uint32(len(value) + sizeOf(inside, in))
	if in.isUndefined(n) {
		length = undefined
	}
	b = append(in.putHead(b, n, length), value...)
	b = write(b, inside, in)
	if in.isUndefined(n) {
		b = putPlain(b, sequenceEnd, 0)
	}
	return b
}
