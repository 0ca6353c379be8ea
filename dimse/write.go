package dimse

import (
	"modality/api"
	"modality/dict"
)

// check looks the fields over by their places, and refuses the first that may not be as it is.
func (k command) check(c *api.Cmd) error {
	for place := placeClass; place <= placeAttrs; place++ {
		e := k.elementAt(place)
		if reason := e.wrong(k.use(e), e.read(c)); reason != api.OK {
			return refusal(place, reason)
		}
	}
	return nil
}

// wrong tells why a field may not be laid down, if it may not.
func (e element) wrong(u use, f field) api.Errno {
	switch {
	case u == unused && f != (field{}):
		return api.ErrDimseUnused
	case u == must && e.isEmpty(f):
		return api.ErrDimseMissing
	case f.text != "" && !e.takes(f.text):
		return api.ErrDimseValue
	}
	return api.OK
}

// write lays a command down that was looked over.
func (k command) write(c *api.Cmd) []byte {
	var body []byte
	for _, e := range elements {
		u, f := k.use(e), e.read(c)
		if u == must || u == may && f != (field{}) {
			body = appendElement(body, e.number, e.value(f))
		}
	}
	b := appendElement(nil, groupLength, lowFirst(uint32(len(body)), 4))
	return append(b, body...)
}

// value gives the bytes that say a field.
func (e element) value(f field) string {
	if e.vr == api.VRUS {
		return lowFirst(uint32(f.number), 2)
	}
	return dict.Pad(e.vr, f.text)
}

func appendElement(b []byte, number uint16, value string) []byte {
	b = append(b, lowFirst(commandGroup, 2)...)
	b = append(b, lowFirst(uint32(number), 2)...)
	b = append(b, lowFirst(uint32(len(value)), 4)...)
	return append(b, value...)
}
