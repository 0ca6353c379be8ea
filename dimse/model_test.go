package dimse_test

import (
	"encoding/binary"
	"reflect"
	"regexp"
	"strings"

	"modality/api"
)

var (
	uidForm     = regexp.MustCompile(`^(0|[1-9][0-9]*)(\.(0|[1-9][0-9]*))*$`)
	commentForm = regexp.MustCompile(`^[ -\[\]-~]{0,63}[!-\[\]-~]$`)
)

// mayBe tells whether a text that is not empty may be an element's value, by the words of P10.1.
func mayBe(vr, s string) bool {
	if vr == "UI" {
		return len(s) <= 64 && uidForm.MatchString(s)
	}
	return commentForm.MatchString(s)
}

// outcome is what a second writer or reader tells.
type outcome struct {
	bytes []byte
	cmd   api.Cmd
	code  api.Errno
	at    int
}

func refused(code api.Errno, at int) outcome { return outcome{code: code, at: at} }

// isNothing tells whether a field is zero, or a list without elements.
func isNothing(v reflect.Value) bool {
	return v.IsZero() || v.Kind() == reflect.Slice && v.Len() == 0
}

// encode is a second EncodeCmd: a field's place is its place in api.Cmd, and the document's tables say the rest.
func (d *document) encode(c api.Cmd) outcome {
	r, known := d.rows[c.Field]
	if !known {
		return refused(api.ErrDimseField, 0)
	}
	fields := reflect.ValueOf(c)
	for place := 1; place <= 11; place++ {
		v := fields.Field(place)
		uid := place == 1 || place == 2
		switch {
		case r.uses[place] == "-" && !isNothing(v):
			return refused(api.ErrDimseUnused, place)
		case r.uses[place] == "M" && uid && isNothing(v):
			return refused(api.ErrDimseMissing, place)
		case uid && v.String() != "" && !mayBe("UI", v.String()), place == 9 && v.String() != "" && !mayBe("LO", v.String()):
			return refused(api.ErrDimseValue, place)
		}
	}
	var parts []part
	for _, l := range d.lines {
		v := fields.Field(l.place)
		if u := r.use(l); u == "M" || u == "O" && !isNothing(v) {
			parts = append(parts, part{l.number, valueOf(v, l.vr)})
		}
	}
	b := set(parts...)
	if len(b) > 4096 {
		return refused(api.ErrDimseLong, 4096)
	}
	return outcome{bytes: b}
}

// valueOf is the bytes of a field.
func valueOf(v reflect.Value, vr string) (b []byte) {
	switch v.Kind() {
	case reflect.Bool:
		if v.Bool() {
			return raw(1, 0)
		}
		return raw(1, 1)
	case reflect.Uint16:
		return binary.LittleEndian.AppendUint16(nil, uint16(v.Uint()))
	case reflect.Slice:
		for i := range v.Len() {
			t := v.Index(i).Uint()
			b = append(b, byte(t>>16), byte(t>>24), byte(t), byte(t>>8))
		}
		return b
	}
	b = []byte(v.String())
	if len(b)%2 == 1 && vr == "UI" {
		return append(b, 0)
	}
	if len(b)%2 == 1 {
		return append(b, ' ')
	}
	return b
}

// heads is the first half of a second DecodeCmd: all elements by their number, or why one can't be read.
func heads(b []byte) (map[uint16][]byte, outcome) {
	values := map[uint16][]byte{}
	last := -1
	for at := 0; at < len(b); {
		rest := b[at:]
		if len(rest) < 8 {
			return nil, refused(api.ErrDimseShort, at)
		}
		group, number := binary.LittleEndian.Uint16(rest), binary.LittleEndian.Uint16(rest[2:])
		length := int64(binary.LittleEndian.Uint32(rest[4:]))
		if group != 0 || int(number) <= last {
			return nil, refused(api.ErrDimseTag, at)
		}
		if length%2 != 0 {
			return nil, refused(api.ErrDimseLength, at)
		}
		if length > int64(len(rest))-8 {
			return nil, refused(api.ErrDimseShort, at)
		}
		values[number] = rest[8 : 8+length]
		last = int(number)
		at += 8 + int(length)
	}
	return values, outcome{}
}

// decode is a second DecodeCmd.
func (d *document) decode(b []byte) outcome {
	if len(b) > 4096 {
		return refused(api.ErrDimseLong, 4096)
	}
	values, o := heads(b)
	if o.code != api.OK {
		return o
	}
	if g := values[0]; len(g) != 4 || uint64(binary.LittleEndian.Uint32(g)) != uint64(len(b)-12) {
		return refused(api.ErrDimseGroup, 0)
	}
	f := values[0x0100]
	if len(f) != 2 {
		return refused(api.ErrDimseField, 0)
	}
	r, known := d.rows[binary.LittleEndian.Uint16(f)]
	if !known {
		return refused(api.ErrDimseField, 0)
	}
	for _, l := range d.lines {
		value, there := values[l.number]
		u := r.use(l)
		switch {
		case u == "-" || u == "O" && !there:
			continue
		case !there:
			return refused(api.ErrDimseMissing, int(l.number))
		case !store(reflect.ValueOf(&o.cmd).Elem().Field(l.place), l.vr, u, value):
			return refused(api.ErrDimseValue, int(l.number))
		}
	}
	return o
}

// store sets a field to what an element says, if that may be.
func store(v reflect.Value, vr, use string, value []byte) bool {
	switch vr {
	case "US":
		if len(value) != 2 {
			return false
		}
		n := binary.LittleEndian.Uint16(value)
		if v.Kind() == reflect.Bool {
			v.SetBool(n != 0x0101)
		} else {
			v.SetUint(uint64(n))
		}
		return true
	case "AT":
		if len(value)%4 != 0 {
			return false
		}
		for ; len(value) > 0; value = value[4:] {
			t := uint32(value[1])<<24 | uint32(value[0])<<16 | uint32(value[3])<<8 | uint32(value[2])
			v.Set(reflect.Append(v, reflect.ValueOf(api.Tag(t))))
		}
		return true
	}
	s := strings.TrimRight(string(value), "\x00 ")
	v.SetString(s)
	return s == "" && !(use == "M" && vr == "UI") || s != "" && mayBe(vr, s)
}
