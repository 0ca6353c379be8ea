package dimse

import (
	"modality/api"
	"modality/dict"
)

// commandGroup is the group of all elements of a command set.
const commandGroup = 0x0000

// headSize is how many bytes stand ahead of an element's value: its tag and its length.
const headSize = 8

// raw is an element as it came.
type raw struct {
	number uint16
	value  []byte
}

// set is the elements of a command set, rising by number.
type set []raw

// cutElements parts the elements, whatever they say.
func cutElements(b []byte) (set, error) {
	var s set
	least := 0
	for at := 0; at < len(b); {
		r, reason := cutElement(b[at:], least)
		if reason != api.OK {
			return nil, refusal(at, reason)
		}
		s = append(s, r)
		least = int(r.number) + 1
		at += headSize + len(r.value)
	}
	return s, nil
}

// cutElement cuts the first element off; its number is at least this one.
func cutElement(b []byte, least int) (raw, api.Errno) {
	if len(b) < headSize {
		return raw{}, api.ErrDimseShort
	}
	group, number, length := numberIn(b[:2]), numberIn(b[2:4]), numberIn(b[4:headSize])
	b = b[headSize:]
	switch {
	case group != commandGroup || int(number) < least:
		return raw{}, api.ErrDimseTag
	case length%2 == 1:
		return raw{}, api.ErrDimseLength
	case length > uint32(len(b)):
		return raw{}, api.ErrDimseShort
	}
	return raw{uint16(number), b[:length]}, api.OK
}

// value gives what an element says, if it is there.
func (s set) value(number uint16) ([]byte, bool) {
	for _, r := range s {
		if r.number == number {
			return r.value, true
		}
	}
	return nil, false
}

// tellsLength tells whether the first element says how many of all bytes stand behind it.
func (s set) tellsLength(all int) bool {
	told, _ := s.value(groupLength)
	behind := all - headSize - len(told)
	return len(told) == 4 && numberIn(told) == uint32(behind)
}

// command finds the command that the set says it is.
func (s set) command() (command, bool) {
	told, _ := s.value(commandField)
	if len(told) != 2 {
		return command{}, false
	}
	return commandOf(uint16(numberIn(told)))
}

// read puts the elements that the command uses into its fields; the others are let go.
func (k command) read(s set) (api.Cmd, error) {
	var c api.Cmd
	for _, e := range elements {
		u := k.use(e)
		if u == unused {
			continue
		}
		value, there := s.value(e.number)
		if !there && u == must {
			return api.Cmd{}, refusal(int(e.number), api.ErrDimseMissing)
		}
		if !there {
			continue
		}
		f, ok := e.fieldIn(value)
		if !ok || u == must && e.isEmpty(f) {
			return api.Cmd{}, refusal(int(e.number), api.ErrDimseValue)
		}
		e.put(&c, f)
	}
	return c, nil
}

// fieldIn reads what a field says out of its element's value, if that may be.
func (e element) fieldIn(value []byte) (field, bool) {
	switch e.vr {
	case api.VRUS:
		return field{number: uint16(numberIn(value))}, len(value) == 2
	case api.VRAT:
		return field{text: string(value)}, len(value)%tagSize == 0
	}
	text := dict.Trim(e.vr, string(value))
	return field{text: text}, text == "" || e.takes(text)
}
