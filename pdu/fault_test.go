package pdu_test

import (
	"bytes"
	"slices"
	"testing"

	"modality/api"
	"modality/pdu"
)

// refusals calls every face with what it refuses, each reason once.
func refusals() map[string]error {
	faults := map[string]error{}
	write := func(reason string, p api.Pdu) { _, faults["Encode, "+reason] = pdu.Encode(p) }
	read := func(reason string, b []byte) { _, faults["Decode, "+reason] = pdu.Decode(b) }
	spoilt := func(put func(p *api.Pdu)) api.Pdu {
		p := request()
		put(&p)
		return p
	}
	write("kind", api.Pdu{})
	write("field", api.Pdu{Kind: api.PduReleaseRQ, Reason: 1})
	write("text", spoilt(func(p *api.Pdu) { p.Assoc.App = "" }))
	write("context", spoilt(func(p *api.Pdu) { p.Assoc.Contexts = nil }))
	write("item", data())
	write("long", data(api.Pdv{Context: 1, Data: make([]byte, 20000)}))
	read("short", nil)
	read("kind", make([]byte, 6))
	read("length", unit(5))
	read("text", unit(1, make([]byte, 68)))
	read("item", unit(4))
	read("context", unit(4, raw(0, 0, 0, 2, 2, 0)))
	for reason, b := range map[string][]byte{"kind": make([]byte, 6), "length": unit(5), "item": unit(4)} {
		s := pdu.NewStream()
		s.Take(b)
		_, _, faults["Next, "+reason] = s.Next()
	}
	return faults
}

// TestFaults: each refusal is a new fault of this layer with a number of this layer, so that nobody can change another's.
func TestFaults(t *testing.T) {
	seen := map[*api.Fault]string{}
	for range 2 {
		for call, err := range refusals() {
			f, ok := err.(*api.Fault)
			if !ok || f == nil || f.Layer != "pdu" {
				t.Errorf("DOC.md, Errors: %s: %v", call, err)
				continue
			}
			if number, ok := f.Err.(api.Errno); !ok || number < 160 || number > 167 {
				t.Errorf("DOC.md, Errors: %s: %v", call, err)
			}
			if seen[f] != "" {
				t.Errorf("DOC.md, Errors: %s and %s give one fault", call, seen[f])
			}
			seen[f] = call
			f.Layer, f.At, f.Err = "changed", -1, nil
		}
	}
}

// roomy is a PDU whose every list has spare room, filled with what must stay.
func roomy(p api.Pdu) api.Pdu {
	p = clone(p)
	for i := range p.Assoc.Contexts {
		c := &p.Assoc.Contexts[i]
		c.Syntaxes = append(c.Syntaxes, "9", "9")[:len(c.Syntaxes)]
	}
	p.Assoc.Contexts = append(p.Assoc.Contexts, api.PresContext{Id: 9})[:len(p.Assoc.Contexts)]
	u := &p.Assoc.User
	for i := range u.Others {
		u.Others[i].Data = append(u.Others[i].Data, 9, 9)[:len(u.Others[i].Data)]
	}
	u.Roles = append(u.Roles, api.Role{Class: "9"})[:len(u.Roles)]
	u.Others = append(u.Others, api.UserItem{Type: 9})[:len(u.Others)]
	for i := range p.Values {
		p.Values[i].Data = append(p.Values[i].Data, 9, 9)[:len(p.Values[i].Data)]
	}
	p.Values = append(p.Values, api.Pdv{Context: 9})[:len(p.Values)]
	return p
}

// stretched is a PDU whose lists are told with their spare room.
func stretched(p api.Pdu) api.Pdu {
	p.Assoc.Contexts = slices.Clone(p.Assoc.Contexts[:cap(p.Assoc.Contexts)])
	for i, c := range p.Assoc.Contexts {
		p.Assoc.Contexts[i].Syntaxes = slices.Clone(c.Syntaxes[:cap(c.Syntaxes)])
	}
	u := &p.Assoc.User
	u.Roles = slices.Clone(u.Roles[:cap(u.Roles)])
	u.Others = slices.Clone(u.Others[:cap(u.Others)])
	for i, o := range u.Others {
		u.Others[i].Data = bytes.Clone(o.Data[:cap(o.Data)])
	}
	p.Values = slices.Clone(p.Values[:cap(p.Values)])
	for i, v := range p.Values {
		p.Values[i].Data = bytes.Clone(v.Data[:cap(v.Data)])
	}
	return p
}

// samples is PDUs that have something in every list.
func samples() []api.Pdu {
	return []api.Pdu{full(), fullAccept(), data(api.Pdv{Context: 1, Data: raw(1, 2, 3)}, api.Pdv{Context: 3}, api.Pdv{Context: 5, Data: raw(4)})}
}

// TestWriteMemory: what is handed to Encode stays as it is, spare room included, and its answers are new.
func TestWriteMemory(t *testing.T) {
	for _, p := range samples() {
		p = roomy(p)
		before := stretched(p)
		first, err := pdu.Encode(p)
		if err != nil || !same(stretched(p), before) {
			t.Fatalf("DOC.md, Memory: %v, the PDU is now %s", err, shown(p))
		}
		second, _ := pdu.Encode(p)
		want := bytes.Clone(first)
		first = first[:cap(first)]
		for i := range first {
			first[i] = 0xEE
		}
		if !bytes.Equal(second, want) || !same(stretched(p), before) {
			t.Errorf("DOC.md, Memory: an answer of Encode shares memory")
		}
		if third, err := pdu.Encode(p); err != nil || !bytes.Equal(third, want) {
			t.Errorf("DOC.md, One answer: %s, %v", hex(third), err)
		}
	}
}

// fill overwrites all lists of a PDU and their spare room, one by one, and calls look behind each.
func fill(p api.Pdu, look func(what string)) {
	for _, v := range p.Values {
		dirty(v.Data)
		look("Data")
	}
	for _, o := range p.Assoc.User.Others {
		dirty(o.Data)
		look("Others' Data")
	}
	for _, c := range p.Assoc.Contexts {
		all := c.Syntaxes[:cap(c.Syntaxes)]
		for i := range all {
			all[i] = "changed"
		}
		look("Syntaxes")
	}
	roles := p.Assoc.User.Roles[:cap(p.Assoc.User.Roles)]
	for i := range roles {
		roles[i].Class = "changed"
	}
	look("Roles")
}

func dirty(b []byte) {
	b = b[:cap(b)]
	for i := range b {
		b[i] = 0xEE
	}
}

// TestReadMemory: what Decode answers is new, list by list, and hangs neither on its bytes nor on another answer.
func TestReadMemory(t *testing.T) {
	for _, want := range samples() {
		b, err := pdu.Encode(want)
		if err != nil {
			t.Fatal(err)
		}
		room := append(bytes.Clone(b), 9, 9, 9)
		first, err := pdu.Decode(room[:len(b)])
		if err != nil || !bytes.Equal(room, append(bytes.Clone(b), 9, 9, 9)) {
			t.Fatalf("DOC.md, Memory: %v, the bytes are now %s", err, hex(room))
		}
		second, _ := pdu.Decode(room[:len(b)])
		fill(first, func(what string) {
			if !same(second, want) || !bytes.Equal(room[:len(b)], b) {
				t.Errorf("DOC.md, Memory: %s of an answer of Decode is shared", what)
			}
		})
		dirty(room)
		if !same(second, want) {
			t.Errorf("DOC.md, Memory: an answer of Decode hangs on its bytes: %s", shown(second))
		}
	}
}

// TestListsApart: no two lists of one answer share memory, spare room included.
func TestListsApart(t *testing.T) {
	for _, want := range samples() {
		b, _ := pdu.Encode(want)
		for i := range 8 {
			p, err := pdu.Decode(b)
			if err != nil {
				t.Fatal(err)
			}
			changed := clone(want)
			if i < len(p.Values) {
				p.Values[i].Data = append(p.Values[i].Data, raw(1, 2, 3, 4, 5, 6, 7, 8)...)
				changed.Values[i].Data = append(changed.Values[i].Data, raw(1, 2, 3, 4, 5, 6, 7, 8)...)
			}
			if i < len(p.Assoc.User.Others) {
				p.Assoc.User.Others[i].Data = append(p.Assoc.User.Others[i].Data, raw(1, 2, 3, 4, 5, 6, 7, 8)...)
				changed.Assoc.User.Others[i].Data = append(changed.Assoc.User.Others[i].Data, raw(1, 2, 3, 4, 5, 6, 7, 8)...)
			}
			if i < len(p.Assoc.Contexts) {
				p.Assoc.Contexts[i].Syntaxes = append(p.Assoc.Contexts[i].Syntaxes, "1", "2", "3")
				changed.Assoc.Contexts[i].Syntaxes = append(changed.Assoc.Contexts[i].Syntaxes, "1", "2", "3")
			}
			if !same(p, changed) {
				t.Errorf("DOC.md, Memory: two lists of one answer share memory: %s", shown(p))
			}
		}
	}
}
