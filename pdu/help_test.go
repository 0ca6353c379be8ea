package pdu_test

import (
	"bytes"
	"encoding/binary"
	"fmt"
	"reflect"
	"slices"
	"testing"

	"modality/api"
	"modality/pdu"
)

// is tells whether an error is this layer's fault with this number at this place; OK: no error.
func is(err error, code api.Errno, at int) bool {
	if code == api.OK {
		return err == nil
	}
	f, ok := err.(*api.Fault)
	return ok && f != nil && f.Layer == "pdu" && f.At == at && f.Err == error(code)
}

// request is a small A-ASSOCIATE-RQ, new at each call.
func request() api.Pdu {
	return api.Pdu{Kind: api.PduRQ, Assoc: api.Associate{Version: 1, Called: "A", Calling: "B", App: "1.2", Contexts: []api.PresContext{
		{Id: 1, Class: "1.3", Syntaxes: []string{"1.4"}},
	}}}
}

// accept is a small A-ASSOCIATE-AC.
func accept() api.Pdu {
	return api.Pdu{Kind: api.PduAC, Assoc: api.Associate{Version: 1, Called: "A", Calling: "B", App: "1.2", Contexts: []api.PresContext{
		{Id: 1, Syntaxes: []string{"1.4"}},
		{Id: 3, Result: 4},
	}}}
}

// user has something of all that the user information can tell.
func user() api.UserInfo {
	return api.UserInfo{
		HasMax: true, MaxLength: 0x01020304, Class: "1.9", Name: " N ", HasOps: true, Invoked: 0x0506, Performed: 0x0708,
		Roles:  []api.Role{{Class: "1.3", Scu: 1}, {Class: "1.33", Scp: 1}},
		Others: []api.UserItem{{Type: 0x58, Data: []byte{9, 0}}, {Type: 0x56}, {Type: 0xFF, Data: []byte{7}}, {Type: 0x58, Data: []byte{9, 0}}},
	}
}

// full is an A-ASSOCIATE-RQ with everything in it.
func full() api.Pdu {
	p := request()
	p.Assoc.Version = 0xFF01
	p.Assoc.Contexts = append(p.Assoc.Contexts, api.PresContext{Id: 255, Class: "1.33", Syntaxes: []string{"1.4", "1.5", "1.4"}})
	p.Assoc.User = user()
	return p
}

// fullAccept is an A-ASSOCIATE-AC with everything in it.
func fullAccept() api.Pdu {
	p := accept()
	p.Assoc.User = user()
	return p
}

func data(values ...api.Pdv) api.Pdu { return api.Pdu{Kind: api.PduData, Values: values} }

// clone is a PDU of its own memory, in which lists without elements are nil.
func clone(p api.Pdu) api.Pdu {
	p.Assoc.Contexts = append([]api.PresContext(nil), p.Assoc.Contexts...)
	for i := range p.Assoc.Contexts {
		p.Assoc.Contexts[i].Syntaxes = append([]string(nil), p.Assoc.Contexts[i].Syntaxes...)
	}
	u := &p.Assoc.User
	u.Roles = append([]api.Role(nil), u.Roles...)
	u.Others = append([]api.UserItem(nil), u.Others...)
	for i := range u.Others {
		u.Others[i].Data = append([]byte(nil), u.Others[i].Data...)
	}
	p.Values = append([]api.Pdv(nil), p.Values...)
	for i := range p.Values {
		p.Values[i].Data = append([]byte(nil), p.Values[i].Data...)
	}
	return p
}

func same(p, q api.Pdu) bool { return reflect.DeepEqual(p, q) }

// shown tells the beginning of a PDU.
func shown(p api.Pdu) string { return fmt.Sprintf("%.600s", fmt.Sprintf("%+v", p)) }

// hex tells the beginning of bytes.
func hex(b []byte) string {
	if len(b) > 200 {
		return fmt.Sprintf("%d bytes % x ..", len(b), b[:200])
	}
	return fmt.Sprintf("%d bytes % x", len(b), b)
}

// sized lays down a length of so many bytes, and the parts behind it.
func sized(size int, parts ...[]byte) []byte {
	body := slices.Concat(parts...)
	head := binary.BigEndian.AppendUint32(nil, uint32(len(body)))
	return append(head[4-size:], body...)
}

// unit lays down a PDU of any kind.
func unit(kind byte, parts ...[]byte) []byte {
	return append([]byte{kind, 0}, sized(4, parts...)...)
}

// item lays down an item of any type.
func item(kind byte, parts ...[]byte) []byte {
	return append([]byte{kind, 0}, sized(2, parts...)...)
}

func raw(b ...byte) []byte { return b }

func text(s string) []byte { return []byte(s) }

// titled lays down what an A-ASSOCIATE has ahead of its items.
func titled(called, calling string) []byte {
	return slices.Concat(raw(0, 1, 0, 0), text(fmt.Sprintf("%-16s%-16s", called, calling)), make([]byte, 32))
}

// associate lays down an A-ASSOCIATE with these items, the first of which stands at 74.
func associate(kind byte, items ...[]byte) []byte {
	return unit(kind, titled("A", "B"), slices.Concat(items...))
}

// The items of request and accept, as bytes; app and asked have 7 and 22 of them.
func app() []byte { return item(0x10, text("1.2")) }

func asked(id byte) []byte {
	return item(0x20, raw(id, 0, 0, 0), item(0x30, text("1.3")), item(0x40, text("1.4")))
}

func answered(id, result byte, items ...[]byte) []byte {
	return item(0x21, raw(id, 0, result, 0), slices.Concat(items...))
}

// inUser is a request whose user items are these: the first stands at 107.
func inUser(items ...[]byte) []byte {
	return associate(1, app(), asked(1), item(0x50, items...))
}

// inAsked is a request whose one context has these items: the first stands at 89, the context at 81.
func inAsked(items ...[]byte) []byte {
	return associate(1, app(), item(0x20, raw(1, 0, 0, 0), slices.Concat(items...)), item(0x50))
}

// inAnswered is an accept whose one context has these items: the first stands at 89, the context at 81.
func inAnswered(result byte, items ...[]byte) []byte {
	return associate(2, app(), answered(1, result, items...), item(0x50))
}

// wantBytes fails if a PDU is not written as it must be, or if that is not read as the PDU.
func wantBytes(t *testing.T, p api.Pdu, want []byte) {
	t.Helper()
	if b, err := pdu.Encode(p); err != nil || !bytes.Equal(b, want) {
		t.Fatalf("P8.1: %s: %s, %v; want %s", shown(p), hex(b), err, hex(want))
	}
	if back, err := pdu.Decode(want); err != nil || !same(back, clone(p)) {
		t.Fatalf("P8.3: %s: %s, %v; want %s", hex(want), shown(back), err, shown(p))
	}
}

// wantUnwritten fails if a PDU is not refused as it must be.
func wantUnwritten(t *testing.T, p api.Pdu, code api.Errno, at int) {
	t.Helper()
	if b, err := pdu.Encode(p); b != nil || !is(err, code, at) {
		t.Errorf("P8.1: %s: %s, %v; want %d at %d", shown(p), hex(b), err, code, at)
	}
}

// wantPdu fails if bytes are not read as they must be, or if what is read is not written and read again as the same.
func wantPdu(t *testing.T, b []byte, want api.Pdu) {
	t.Helper()
	p, err := pdu.Decode(b)
	if err != nil || !same(p, want) {
		t.Fatalf("P8.2: %s: %s, %v; want %s", hex(b), shown(p), err, shown(want))
	}
	again, err := pdu.Encode(p)
	if err != nil {
		t.Fatalf("P8.3: %s, which was read, is not written: %v", shown(p), err)
	}
	if p, err = pdu.Decode(again); err != nil || !same(p, want) {
		t.Fatalf("P8.3: %s, read, written and read: %s, %v", shown(want), shown(p), err)
	}
}

// wantUnread fails if bytes are not refused as they must be.
func wantUnread(t *testing.T, b []byte, code api.Errno, at int) {
	t.Helper()
	if p, err := pdu.Decode(b); !same(p, api.Pdu{}) || !is(err, code, at) {
		t.Errorf("P8.2: %s: %s, %v; want %d at %d", hex(b), shown(p), err, code, at)
	}
}
