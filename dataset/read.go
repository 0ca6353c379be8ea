package dataset

import (
	"modality/api"
	"modality/dict"
)

// nowhere is the node of the top level.
const nowhere = -1

// span is what is being read: the elements of a room, or the items of a sequence.
type span struct {
	node   int     // whose span it is, as a place in the list
	end    int     // where its bytes end
	marked bool    // its length is undefined: a mark must end it
	items  bool    // it is a sequence's
	in     syntax  // of the heads in it
	last   api.Tag // of the element ahead
}

// mark tells the tag that ends the span, if its length is undefined.
func (s *span) mark() api.Tag {
	if s.items {
		return sequenceEnd
	}
	return itemEnd
}

// reader goes over the bytes of a data set.
type reader struct {
	bytes []byte
	at    int // where the head begins that is looked at
	nodes []api.Node
	spans []span // from the top level to the innermost
}

func newReader(b []byte, in syntax) *reader {
	return &reader{bytes: b, spans: []span{{node: nowhere, end: len(b), in: in}}}
}

// read takes head by head and gives the nodes.
func (r *reader) read() []api.Node {
next:
	inner := r.inner()
	if r.isAtEnd(inner) {
		if len(r.spans) == 1 {
			return r.nodes
		}
		r.spans = r.spans[:len(r.spans)-1]
		goto next
	}
	if inner.items {
		r.takeItem(inner)
	} else {
		r.takeElement(inner)
	}
	goto next
}

func (r *reader) inner() *span { return &r.spans[len(r.spans)-1] }

// isAtEnd tells whether nothing more is in the innermost span, and goes past the mark that tells it.
func (r *reader) isAtEnd(inner *span) bool {
	if !inner.marked && r.at == inner.end {
		return true
	}
	r.need(shortHead)
	if !inner.marked || r.tag() != inner.mark() {
		return false
	}
	if r.number(tagSize, 4) != 0 {
		r.giveUp(api.ErrSetLength)
	}
	r.at += shortHead
	return true
}

func (r *reader) takeItem(sequence *span) {
	if r.tag() != api.TagItem {
		r.giveUp(api.ErrSetTag)
	}
	h := head{vr: api.VRItem, length: r.number(tagSize, 4), size: shortHead, inside: sequence.in}
	if isOdd(h.length) {
		r.giveUp(api.ErrSetLength)
	}
	if r.depth() > api.MaxDepth {
		r.giveUp(api.ErrSetDeep)
	}
	r.needLength(h)
	r.add(api.Node{Tag: api.TagItem, VR: api.VRItem})
	r.enter(h)
}

// depth tells how deep an item of the innermost span lies: each around it has two spans, its sequence's and its own.
func (r *reader) depth() int { return len(r.spans) / 2 }

func (r *reader) takeElement(room *span) {
	t := r.tag()
	if !mayStand(t) || t <= room.last {
		r.giveUp(api.ErrSetTag)
	}
	h := room.in.takeHead(r, t)
	r.checkLength(h)
	room.last = t
	switch {
	case isGroupLength(t):
		r.leave(h)
	case h.vr == api.VRSQ:
		r.add(api.Node{Tag: t, VR: h.vr})
		r.enter(h)
	default:
		r.add(api.Node{Tag: t, VR: h.vr, Value: dict.Trim(h.vr, string(r.cut(h.size, int(h.length))))})
		r.leave(h)
	}
}

func (r *reader) checkLength(h head) {
	if h.length == undefined && h.vr != api.VRSQ || isOdd(h.length) {
		r.giveUp(api.ErrSetLength)
	}
	if h.vr != api.VRSQ && h.length > api.MaxValue {
		r.giveUp(api.ErrSetLong)
	}
	r.needLength(h)
}

// needLength gives up if a defined length is more than what is left behind the head.
func (r *reader) needLength(h head) {
	if left := r.inner().end - r.at - h.size; h.length != undefined && h.length > uint32(left) {
		r.giveUp(api.ErrSetShort)
	}
}

// add puts a node behind the others, and counts it where it stands.
func (r *reader) add(n api.Node) {
	if len(r.nodes) == api.MaxNodes {
		r.giveUp(api.ErrSetMany)
	}
	if around := r.inner().node; around != nowhere {
		r.nodes[around].N++
	}
	r.nodes = append(r.nodes, n)
}

// enter goes past a head into what is behind it, which belongs to the last node.
func (r *reader) enter(h head) {
	r.at += h.size
	s := span{node: len(r.nodes) - 1, end: r.inner().end, marked: true, items: h.vr == api.VRSQ, in: h.inside}
	if h.length != undefined {
		s.end, s.marked = r.at+int(h.length), false
	}
	r.spans = append(r.spans, s)
}

// leave goes past a head and the value behind it.
func (r *reader) leave(h head) { r.at += h.size + int(h.length) }

// cut gives bytes of the head that is looked at, or of what is behind it, so that nothing behind them can be reached.
func (r *reader) cut(from, size int) []byte {
	from += r.at
	return r.bytes[from : from+size : from+size]
}

func (r *reader) tag() api.Tag { return tagIn(r.cut(0, tagSize)) }

func (r *reader) number(from, size int) uint32 { return numberIn(r.cut(from, size)) }

// need gives up if the innermost span has not so many bytes left.
func (r *reader) need(size int) {
	if r.inner().end-r.at < size {
		r.giveUp(api.ErrSetShort)
	}
}

// giveUp ends the reading, however deep it is, at the head that can't be taken; Decode catches it.
func (r *reader) giveUp(reason api.Errno) { panic(refusal(r.at, reason)) }
