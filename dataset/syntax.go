package dataset

import (
	"modality/api"
	"modality/dict"
)

// syntax is how heads are laid down and read: all in which the two transfer syntaxes part.
type syntax interface {
	headSize(n api.Node) int
	isUndefined(n api.Node) bool // whether a node's length is laid down as undefined
	putHead(b []byte, n api.Node, length uint32) []byte
	takeHead(r *reader, t api.Tag) head // of an element with this tag, at which the reader is
}

// head is what a syntax tells of an element, ahead of its value or its items.
type head struct {
	vr     api.VR
	length uint32
	size   int    // of the head's own bytes
	inside syntax // that of the items
}

func syntaxOf(s api.Syntax) (syntax, error) {
	switch s {
	case api.Implicit:
		return implicit{}, nil
	case api.Explicit:
		return explicit{}, nil
	}
	return nil, refusal(0, api.ErrSetSyntax)
}

// implicit is Implicit VR Little Endian.
type implicit struct{}

func (implicit) headSize(api.Node) int { return shortHead }

// isUndefined holds for a sequence that the dictionary does not know: that its length is undefined is all that tells a reader that it is one.
func (implicit) isUndefined(n api.Node) bool { return n.VR == api.VRSQ && !isKnown(n.Tag) }

func (implicit) putHead(b []byte, n api.Node, length uint32) []byte {
	return putPlain(b, n.Tag, length)
}

func (implicit) takeHead(r *reader, t api.Tag) head {
	h := head{vr: dict.Default(t), length: r.number(tagSize, 4), size: shortHead, inside: implicit{}}
	if h.length == undefined && !isKnown(t) && !isGroupLength(t) {
		h.vr = api.VRSQ
	}
	return h
}

// explicit is Explicit VR Little Endian.
type explicit struct{}

func (explicit) headSize(n api.Node) int {
	if isLong(n.VR) {
		return longHead
	}
	return shortHead
}

func (explicit) isUndefined(api.Node) bool { return false }

func (explicit) putHead(b []byte, n api.Node, length uint32) []byte {
	if n.VR == api.VRItem {
		return putPlain(b, n.Tag, length)
	}
	b = append(putTag(b, n.Tag), dict.VRWord(n.VR)...)
	if isLong(n.VR) {
		return putNumber(append(b, 0, 0), 4, length)
	}
	return putNumber(b, 2, length)
}

func (explicit) takeHead(r *reader, t api.Tag) head {
	v, err := dict.VROf(string(r.cut(tagSize, 2)))
	if err != nil {
		r.giveUp(api.ErrSetVR)
	}
	h := head{vr: v, size: shortHead, inside: explicit{}}
	if isLong(v) {
		r.need(longHead)
		h.size, h.length = longHead, r.number(longHead-4, 4)
	} else {
		h.length = r.number(shortHead-2, 2)
	}
	if !mayTell(t, v) {
		r.giveUp(api.ErrSetVR)
	}
	if v == api.VRUN {
		return h.toldAsUnknown(t)
	}
	return h
}

// mayTell tells whether these letters may stand with a tag.
func mayTell(t api.Tag, v api.VR) bool {
	if isGroupLength(t) {
		return v == api.VRUL
	}
	e, known := dict.Find(t)
	return !known || v == e.VR || v == api.VRUN
}

// toldAsUnknown tells what a head with the letters UN is of. The one who wrote it knew no VRs, so none stand in its items.
func (h head) toldAsUnknown(t api.Tag) head {
	h.inside = implicit{}
	if e, known := dict.Find(t); known {
		h.vr = e.VR
	} else if h.length == undefined {
		h.vr = api.VRSQ
	}
	return h
}
