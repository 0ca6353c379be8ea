package dataset_test

import (
	"encoding/binary"
	"math/rand"
	"strings"

	"modality/api"
	"modality/dict"
)

// writer is P6.1 told once more, and all the forms beside the one: from the inside out, each part with its own bytes.
type writer struct {
	explicit bool
	free     *rand.Rand // chooses among the forms; nil: the one form
}

const undefinedLength = 0xFFFFFFFF

var long = " OB OW SQ UC UN UR UT "

func (w writer) forest(trees []tree) []byte {
	var b []byte
	for i, one := range trees {
		if w.chance(6) && one.node.VR != api.VRItem && (i == 0 || trees[i-1].node.Tag>>16 < one.node.Tag>>16) {
			b = append(b, w.groupLength(one.node.Tag)...)
		}
		b = append(b, w.tree(one)...)
	}
	return b
}

// chance tells whether one of so many ways is taken that the one form does not take.
func (w writer) chance(of int) bool { return w.free != nil && w.free.Intn(of) == 0 }

func (w writer) groupLength(t api.Tag) []byte {
	value := make([]byte, 2*w.free.Intn(4))
	return append(w.head(t&^0xFFFF, "UL", uint32(len(value))), value...)
}

func (w writer) tree(one tree) []byte {
	n := one.node
	word := dict.VRWord(n.VR)
	_, known := dict.Find(n.Tag)
	if w.explicit && n.VR != api.VRItem && (known || n.VR == api.VRUN || n.VR == api.VRSQ) && w.chance(4) {
		return w.toldAsUnknown(one, known)
	}
	body := w.body(one)
	mustOpen := n.VR == api.VRSQ && !known && !w.explicit
	if mustOpen || (n.VR == api.VRSQ || n.VR == api.VRItem) && w.chance(2) {
		return w.opened(n, word, body)
	}
	return append(w.head(n.Tag, word, uint32(len(body))), body...)
}

// toldAsUnknown: with the letters UN, and all inside without letters. The elements inside would lose their VRs if these were not the dictionary's.
func (w writer) toldAsUnknown(one tree, known bool) []byte {
	if !isOwnImplied(one.kids) {
		return append(w.head(one.node.Tag, dict.VRWord(one.node.VR), undefinedLength), append(w.body(one), w.mark(sequenceEndTag)...)...)
	}
	body := writer{free: w.free}.body(one)
	if one.node.VR == api.VRSQ && (!known || w.chance(2)) {
		return w.opened(one.node, "UN", body)
	}
	return append(w.head(one.node.Tag, "UN", uint32(len(body))), body...)
}

func isOwnImplied(trees []tree) bool {
	for _, one := range trees {
		n := one.node
		if n.VR != api.VRItem && n.VR != api.VRSQ && n.VR != dict.Default(n.Tag) || !isOwnImplied(one.kids) {
			return false
		}
	}
	return true
}

const (
	itemEndTag     api.Tag = 0xFFFEE00D
	sequenceEndTag api.Tag = 0xFFFEE0DD
)

// opened gives a sequence or an item with an undefined length.
func (w writer) opened(n api.Node, word string, body []byte) []byte {
	end := sequenceEndTag
	if n.VR == api.VRItem {
		end = itemEndTag
	}
	return append(append(w.head(n.Tag, word, undefinedLength), body...), w.mark(end)...)
}

func (w writer) mark(t api.Tag) []byte { return w.head(t, "", 0) }

func (w writer) body(one tree) []byte {
	if one.node.VR == api.VRSQ || one.node.VR == api.VRItem {
		return w.forest(one.kids)
	}
	pads := 0
	if len(one.node.Value)%2 == 1 {
		pads = 1
	}
	pad := " "
	if one.node.VR == api.VRUI || !dict.Text(one.node.VR) {
		pad = "\x00"
	}
	// More padding than is needed is taken away too.
	for dict.Text(one.node.VR) && w.chance(5) {
		pads += 2
	}
	return []byte(one.node.Value + strings.Repeat(pad, pads))
}

func (w writer) head(t api.Tag, word string, length uint32) []byte {
	b := binary.LittleEndian.AppendUint16(nil, uint16(t>>16))
	b = binary.LittleEndian.AppendUint16(b, uint16(t))
	if w.explicit && word != "" {
		b = append(b, word...)
		if !strings.Contains(long, " "+word+" ") {
			return binary.LittleEndian.AppendUint16(b, uint16(length))
		}
		filler := uint16(0)
		if w.free != nil {
			filler = uint16(w.free.Intn(1 << 16))
		}
		b = binary.LittleEndian.AppendUint16(b, filler)
	}
	return binary.LittleEndian.AppendUint32(b, length)
}

// inOneForm lays a well-formed data set down.
func inOneForm(nodes []api.Node, s api.Syntax) []byte {
	return writer{explicit: s == api.Explicit}.forest(forest(nodes))
}

// inSomeForm lays it down in any of the forms that the syntax has.
func inSomeForm(r *rand.Rand, nodes []api.Node, s api.Syntax) []byte {
	return writer{explicit: s == api.Explicit, free: r}.forest(forest(nodes))
}
