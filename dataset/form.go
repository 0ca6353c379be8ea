package dataset

import (
	"modality/api"
	"modality/dict"
)

// undefined is the length of what ends with a mark of its own.
const undefined uint32 = 0xFFFFFFFF

// The marks that end what has an undefined length.
const (
	itemEnd     api.Tag = 0xFFFEE00D
	sequenceEnd api.Tag = 0xFFFEE0DD
)

// The bytes of heads: a tag, perhaps a VR's letters, a length.
const (
	tagSize   = 4
	shortHead = 8
	longHead  = 12 // Explicit, of a VR whose length has four bytes
)

// putNumber lays so many bytes of a number down, the low one first.
func putNumber(b []byte, size int, number uint32) []byte {
	for range size {
		b = append(b, byte(number))
		number >>= 8
	}
	return b
}

// numberIn reads a number of as many bytes as there are, the low one first.
func numberIn(b []byte) uint32 {
	var number uint32
	for i, part := range b {
		number |= uint32(part) << (8 * i)
	}
	return number
}

func putTag(b []byte, t api.Tag) []byte {
	return putNumber(putNumber(b, 2, uint32(t>>16)), 2, uint32(t))
}

func tagIn(b []byte) api.Tag {
	return api.Tag(numberIn(b[:2])<<16 | numberIn(b[2:tagSize]))
}

// putPlain lays a head without letters down: that of an item, of a mark, and of every element in Implicit.
func putPlain(b []byte, t api.Tag, length uint32) []byte {
	return putNumber(putTag(b, t), 4, length)
}

// isOdd tells whether a length is defined and odd: no padded bytes have such a one.
func isOdd(length uint32) bool { return length != undefined && length%2 == 1 }

func isGroupLength(t api.Tag) bool { return t&0xFFFF == 0 }

// mayStand tells whether an element of a room may have this tag; a group length may, though no node comes of it.
func mayStand(t api.Tag) bool {
	switch t >> 16 {
	case 0x0000, 0x0002, 0xFFFE, 0xFFFF:
		return false
	}
	return true
}

func isKnown(t api.Tag) bool {
	_, known := dict.Find(t)
	return known
}

func isLong(v api.VR) bool {
	info, _ := dict.About(v)
	return info.Long
}
