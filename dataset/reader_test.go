package dataset_test

import (
	"encoding/binary"
	"strings"

	"modality/api"
	"modality/dict"
)

// reading is P6.3 told once more, from the top down: each part tells where it ends, and the first fault.
type reading struct {
	b     []byte
	nodes []api.Node
	code  api.Errno
	at    int
}

// bounds is where a room or a sequence stands.
type bounds struct {
	end      int
	defined  bool
	explicit bool
	depth    int
}

// modelDecode tells what Decode must answer.
func modelDecode(b []byte, s api.Syntax) ([]api.Node, api.Errno, int) {
	if s != api.Implicit && s != api.Explicit {
		return nil, api.ErrSetSyntax, 0
	}
	if len(b) > 1<<20 {
		return nil, api.ErrSetLong, 1 << 20
	}
	m := &reading{b: b}
	m.room(0, bounds{end: len(b), defined: true, explicit: s == api.Explicit})
	if m.code != api.OK {
		return nil, m.code, m.at
	}
	return m.nodes, api.OK, 0
}

func (m *reading) fail(code api.Errno, at int) (int, bool) {
	m.code, m.at = code, at
	return 0, false
}

func (m *reading) tag(at int) api.Tag {
	return api.Tag(binary.LittleEndian.Uint16(m.b[at:]))<<16 | api.Tag(binary.LittleEndian.Uint16(m.b[at+2:]))
}

// room tells the offset behind a room, and how many elements it has had.
func (m *reading) room(at int, in bounds) (next, count int, ok bool) {
	last := int64(-1)
	for {
		left := in.end - at
		if left == 0 && in.defined {
			return at, count, true
		}
		if left < 8 {
			m.fail(api.ErrSetShort, at)
			return 0, 0, false
		}
		t := m.tag(at)
		if t == 0xFFFEE00D && !in.defined {
			if binary.LittleEndian.Uint32(m.b[at+4:]) != 0 {
				m.fail(api.ErrSetLength, at)
				return 0, 0, false
			}
			return at + 8, count, true
		}
		if g := t >> 16; g == 0xFFFE || g == 0 || g == 2 || g == 0xFFFF || int64(t) <= last {
			m.fail(api.ErrSetTag, at)
			return 0, 0, false
		}
		last = int64(t)
		if t%0x10000 != 0 {
			count++
		}
		if at, ok = m.element(at, t, in); !ok {
			return 0, 0, false
		}
	}
}

// element looks at points 3 to 7.
func (m *reading) element(at int, t api.Tag, in bounds) (int, bool) {
	e, known := dict.Find(t)
	isGroup := t%0x10000 == 0
	size, length := 8, uint32(0)
	var v api.VR
	inside := in
	if in.explicit {
		word := string(m.b[at+4 : at+6])
		told, err := dict.VROf(word)
		if err != nil {
			return m.fail(api.ErrSetVR, at)
		}
		length = uint32(binary.LittleEndian.Uint16(m.b[at+6:]))
		if strings.Contains(long, " "+word+" ") {
			if in.end-at < 12 {
				return m.fail(api.ErrSetShort, at)
			}
			size, length = 12, binary.LittleEndian.Uint32(m.b[at+8:])
		}
		if known && told != e.VR && word != "UN" || isGroup && word != "UL" {
			return m.fail(api.ErrSetVR, at)
		}
		v = told
		if word == "UN" {
			inside.explicit = false
			if known {
				v = e.VR
			} else if length == undefinedLength {
				v = api.VRSQ
			}
		}
	} else {
		length = binary.LittleEndian.Uint32(m.b[at+4:])
		v = dict.Default(t)
		if !known && !isGroup && length == undefinedLength {
			v = api.VRSQ
		}
	}
	return m.behindHead(at, size, length, api.Node{Tag: t, VR: v}, inside)
}

// behindHead looks at points 4 to 7.
func (m *reading) behindHead(at, size int, length uint32, n api.Node, in bounds) (int, bool) {
	defined := length != undefinedLength
	body := at + size
	switch {
	case !defined && n.VR != api.VRSQ, defined && length%2 != 0:
		return m.fail(api.ErrSetLength, at)
	case n.VR != api.VRSQ && length > 65534:
		return m.fail(api.ErrSetLong, at)
	case defined && int64(length) > int64(in.end-body):
		return m.fail(api.ErrSetShort, at)
	case n.Tag%0x10000 == 0:
		return body + int(length), true
	case len(m.nodes) >= 4096:
		return m.fail(api.ErrSetMany, at)
	}
	place := len(m.nodes)
	m.nodes = append(m.nodes, n)
	if n.VR != api.VRSQ {
		value := string(m.b[body : body+int(length)])
		if dict.Text(n.VR) {
			value = strings.TrimRight(value, " \x00")
		}
		m.nodes[place].Value = value
		return body + int(length), true
	}
	if defined {
		in.end = body + int(length)
	}
	in.defined = defined
	next, count, ok := m.sequence(body, in)
	m.nodes[place].N = count
	return next, ok
}

// sequence tells the offset behind a sequence's items, and how many they are.
func (m *reading) sequence(at int, in bounds) (next, count int, ok bool) {
	for {
		if in.defined && at == in.end {
			return at, count, true
		}
		if in.end-at < 8 {
			m.fail(api.ErrSetShort, at)
			return 0, 0, false
		}
		t, length := m.tag(at), binary.LittleEndian.Uint32(m.b[at+4:])
		if !in.defined && t == 0xFFFEE0DD {
			if length != 0 {
				m.fail(api.ErrSetLength, at)
				return 0, 0, false
			}
			return at + 8, count, true
		}
		if at, ok = m.item(at, t, length, in); !ok {
			return 0, 0, false
		}
		count++
	}
}

func (m *reading) item(at int, t api.Tag, length uint32, in bounds) (int, bool) {
	defined := length != undefinedLength
	in.depth++
	switch {
	case t != 0xFFFEE000:
		return m.fail(api.ErrSetTag, at)
	case defined && length%2 != 0:
		return m.fail(api.ErrSetLength, at)
	case in.depth > 4:
		return m.fail(api.ErrSetDeep, at)
	case defined && int64(length) > int64(in.end-at-8):
		return m.fail(api.ErrSetShort, at)
	case len(m.nodes) >= 4096:
		return m.fail(api.ErrSetMany, at)
	}
	place := len(m.nodes)
	m.nodes = append(m.nodes, api.Node{Tag: t, VR: api.VRItem})
	if defined {
		in.end = at + 8 + int(length)
	}
	in.defined = defined
	next, count, ok := m.room(at+8, in)
	if ok {
		m.nodes[place].N = count
	}
	return next, ok
}
