package pdu_test

import (
	"bytes"
	"encoding/binary"
	"math/rand"
	"slices"
	"testing"

	"modality/api"
	"modality/pdu"
)

// one picks an element.
func one[T any](r *rand.Rand, list ...T) T { return list[r.Intn(len(list))] }

// someBytes is a few bytes of an alphabet.
func someBytes(r *rand.Rand, most int, alphabet string) []byte {
	b := make([]byte, r.Intn(most+1))
	for i := range b {
		b[i] = alphabet[r.Intn(len(alphabet))]
	}
	return b
}

func someUID(r *rand.Rand) string { return "1" + string(someBytes(r, one(r, 1, 2, 63), "012.")) }

func someTitle(r *rand.Rand) string {
	return one(r, "A", "~") + string(someBytes(r, one(r, 0, 2, 14), " Az!")) + one(r, "", "9")
}

// someAssociate is what an A-ASSOCIATE may tell, but perhaps for titles that end in a space.
func someAssociate(r *rand.Rand, kind int) api.Associate {
	a := api.Associate{Version: one(r, 0, 1, uint16(r.Intn(65536))), Called: someTitle(r), Calling: someTitle(r), App: someUID(r), User: someUser(r)}
	for i, id := range r.Perm(128)[:1+r.Intn(one(r, 2, 5, 128))] {
		c := api.PresContext{Id: uint8(2*id + 1)}
		if kind == api.PduAC {
			c.Result = uint8(r.Intn(5))
		} else {
			c.Class = someUID(r)
		}
		for n := 1 + r.Intn(3); n > 0 && (kind == api.PduRQ || c.Result == 0); n-- {
			c.Syntaxes = append(c.Syntaxes, someUID(r))
			if kind == api.PduAC {
				break
			}
		}
		if i < 20 || r.Intn(2) == 0 {
			a.Contexts = append(a.Contexts, c)
		}
	}
	return a
}

func someUser(r *rand.Rand) (u api.UserInfo) {
	if r.Intn(2) == 0 {
		u.HasMax, u.MaxLength = true, one(r, 0, 1, r.Uint32())
	}
	if r.Intn(2) == 0 {
		u.Class = someUID(r)
	}
	if r.Intn(2) == 0 {
		u.Name = one(r, " ", "n") + string(someBytes(r, 15, " ~0"))
	}
	if r.Intn(2) == 0 {
		u.HasOps, u.Invoked, u.Performed = true, uint16(r.Uint32()), one(r, 0, uint16(r.Uint32()))
	}
	for i := range r.Intn(4) {
		u.Roles = append(u.Roles, api.Role{Class: someUID(r) + string(rune('0'+i)), Scu: uint8(r.Intn(2)), Scp: uint8(r.Intn(2))})
		u.Roles[i].Class = u.Roles[i].Class[:min(64, len(u.Roles[i].Class))]
	}
	for range r.Intn(4) {
		u.Others = append(u.Others, api.UserItem{Type: uint8(0x56 + r.Intn(170)), Data: someBytes(r, one(r, 0, 3, 300), "\x00\x51a")})
	}
	return u
}

// somePdu is a PDU that nearly always may be.
func somePdu(r *rand.Rand) api.Pdu {
	p := api.Pdu{Kind: one(r, 1, 1, 1, 2, 2, 3, 4, 4, 5, 6, 7)}
	switch p.Kind {
	case api.PduRQ, api.PduAC:
		p.Assoc = someAssociate(r, p.Kind)
	case api.PduRJ:
		p.Result, p.Source, p.Reason = uint8(r.Intn(256)), uint8(r.Intn(4)), uint8(r.Intn(256))
	case api.PduAbort:
		p.Source, p.Reason = uint8(r.Intn(256)), uint8(r.Intn(256))
	case api.PduData:
		for range 1 + r.Intn(4) {
			p.Values = append(p.Values, api.Pdv{Context: uint8(r.Intn(128)*2 + 1), Command: r.Intn(2) == 0, Last: r.Intn(2) == 0, Data: someBytes(r, one(r, 0, 5, 5000), "\x00\x01\xff")})
		}
	}
	return p
}

// spoilPdu changes something somewhere.
func spoilPdu(r *rand.Rand, p *api.Pdu) {
	a, u := &p.Assoc, &p.Assoc.User
	strange := one(r, "", " ", "x", "1.2 ", "1\x00", `a\b`, "é", "12345678901234567", "1.2", string(bytes.Repeat(raw('1'), 65)))
	small := one(r, 0, 1, 2, 3, 4, 5, uint8(r.Intn(256)))
	switch r.Intn(20) {
	case 0:
		p.Kind = one(r, 0, 8, -1, 257, 1+r.Intn(7), 1+r.Intn(7))
	case 1:
		*one(r, &p.Result, &p.Source, &p.Reason) = small
	case 2:
		p.Values = one(r, nil, []api.Pdv{}, []api.Pdv{{Context: small}}, []api.Pdv{{Context: 1, Data: make([]byte, 16370+r.Intn(20))}})
	case 3:
		*one(r, &a.Called, &a.Calling) = strange
	case 4:
		a.App = strange
	case 5:
		a.Contexts = one(r, nil, a.Contexts, append(a.Contexts, a.Contexts...))
	case 6, 7, 8, 9, 10, 11:
		if len(a.Contexts) > 0 {
			spoilContext(r, &a.Contexts[r.Intn(len(a.Contexts))], strange, small)
		}
	case 12:
		u.HasMax = !u.HasMax
	case 13:
		u.HasOps = !u.HasOps
	case 14:
		*one(r, &u.Class, &u.Name) = strange
	case 15, 16:
		u.Roles = append(u.Roles, one(r, api.Role{Class: strange}, api.Role{Class: "1", Scu: small}, api.Role{Class: "1", Scp: small}))
		u.Roles = append(u.Roles, u.Roles[:r.Intn(2)]...)
	case 17:
		u.Others = append(u.Others, api.UserItem{Type: one(r, 0, 0x50, 0x51, 0x55, 0x56, small)})
	case 18:
		u.Others = append(u.Others, api.UserItem{Type: 0x60, Data: make([]byte, 30000+r.Intn(3000))})
	case 19:
		a.Version++
	}
}

func spoilContext(r *rand.Rand, c *api.PresContext, strange string, small uint8) {
	switch r.Intn(6) {
	case 0:
		c.Id = small
	case 1:
		c.Result = small
	case 2:
		c.Class = strange
	case 3:
		c.Syntaxes = nil
	case 4:
		c.Syntaxes = []string{strange}
	case 5:
		c.Syntaxes = append(c.Syntaxes, "1.2")
	}
}

// holdEncode holds Encode against the model, and Decode against what was written.
func holdEncode(t *testing.T, p api.Pdu) bool {
	t.Helper()
	want, code, at := modelEncode(p)
	before := clone(p)
	b, err := pdu.Encode(p)
	if !bytes.Equal(b, want) || (b == nil) != (code != api.OK) || !is(err, code, at) {
		t.Fatalf("P8.1: %s: %s, %v; want %s, %d at %d", shown(p), hex(b), err, hex(want), code, at)
	}
	if !same(clone(p), before) {
		t.Fatalf("DOC.md, Memory: Encode has changed a PDU: %s", shown(p))
	}
	if err != nil {
		return false
	}
	if back, err := pdu.Decode(b); err != nil || !same(back, before) {
		t.Fatalf("P8.3: %s: %s, %v; want %s", hex(b), shown(back), err, shown(before))
	}
	return true
}

// holdDecode holds Decode against the model, and what it reads against itself, written and read again.
func holdDecode(t *testing.T, b []byte) bool {
	t.Helper()
	want, code, at := modelDecode(b)
	before := bytes.Clone(b)
	p, err := pdu.Decode(b)
	if !same(p, want) || !is(err, code, at) {
		t.Fatalf("P8.2: %s: %s, %v; want %s, %d at %d", hex(b), shown(p), err, shown(want), code, at)
	}
	if !bytes.Equal(b, before) {
		t.Fatalf("DOC.md, Memory: Decode has changed the bytes: %s", hex(b))
	}
	if err != nil {
		return false
	}
	again, err := pdu.Encode(p)
	if err != nil || len(again) > len(b) {
		t.Fatalf("P8.3: %s, read from %d bytes, is written: %d bytes, %v", shown(p), len(b), len(again), err)
	}
	if back, err := pdu.Decode(again); err != nil || !same(back, p) {
		t.Fatalf("P8.3: %s, read, written and read: %s, %v", shown(p), shown(back), err)
	}
	return true
}

// someItem is an item of nearly any type, with what is in it nearly as it must be.
func someItem(r *rand.Rand, kinds ...byte) []byte {
	kind := one(r, kinds...)
	if r.Intn(20) == 0 {
		kind = byte(r.Intn(256))
	}
	uid := func() []byte {
		return append(text(one(r, "1", "1.2", someUID(r))), one(r, "", "", "", "\x00", "\x00\x00", "x")...)
	}
	var body []byte
	switch kind {
	case 0x10, 0x30, 0x40, 0x52:
		body = uid()
	case 0x20, 0x21:
		body = raw(byte(r.Intn(12)*2+1), 0, one[byte](r, 0, 0, 0, 1, 4), 0)
		if r.Intn(20) == 0 {
			body = someBytes(r, 5, "\x00\x01\x02\x05")
		}
		if kind == 0x20 {
			body = append(body, item(0x30, uid())...)
		}
		body = append(body, item(0x40, uid())...)
		for r.Intn(4) == 0 {
			body = append(body, someItem(r, 0x30, 0x40, 0x77)...)
		}
	case 0x50:
		for range r.Intn(6) {
			body = append(body, someItem(r, 0x10, 0x51, 0x52, 0x53, 0x54, 0x54, 0x54, 0x55, 0x56, 0xFF)...)
		}
	case 0x51, 0x53:
		body = raw(0, 1, 2, 3)
	case 0x54:
		body = append(sized(2, uid()), byte(r.Intn(2)), byte(r.Intn(2)))
	case 0x55:
		body = append(text("N"), someBytes(r, 15, " ~")...)
	default:
		body = someBytes(r, 10, "\x00\x10\x20")
	}
	if r.Intn(60) == 0 {
		body = append(body, byte(r.Intn(256)))
	}
	b := item(kind, body)
	b[1] = one[byte](r, 0, 0, 0xEE)
	return b
}

// someUnit is the bytes of an A-ASSOCIATE, its items in any order, some of them too many or not there.
func someUnit(r *rand.Rand) []byte {
	kind := one[byte](r, 1, 1, 2)
	items := [][]byte{someItem(r, 0x10), someItem(r, 0x50), someItem(r, 0x1F+kind)}
	for r.Intn(3) > 0 {
		items = append(items, someItem(r, 0x20, 0x21, 0x20, 0x21, 0x77))
	}
	if r.Intn(8) == 0 {
		items = append(items, someItem(r, 0x10, 0x50))
	}
	if r.Intn(8) == 0 {
		items = items[1:]
	}
	r.Shuffle(len(items), func(i, j int) { items[i], items[j] = items[j], items[i] })
	return associate(kind, items...)
}

// spoilBytes changes a byte, cuts or doubles a piece, and mostly puts the PDU's length right.
func spoilBytes(r *rand.Rand, b []byte) []byte {
	b = bytes.Clone(b)
	at := r.Intn(len(b) + 1)
	to := at + r.Intn(min(9, len(b)-at+1))
	switch r.Intn(6) {
	case 0:
		b = append(b[:at:at], b[to:]...)
	case 1:
		b = slices.Concat(b[:to], b[at:])
	case 2:
		b = b[:at]
	case 3:
		if at < len(b) {
			b[at] += one[byte](r, 1, 255)
		}
	default:
		if at < len(b) {
			b[at] = one(r, byte(r.Intn(256)), 0, 1, 2, ' ', '\\', 0x10, 0x20, 0x21, 0x30, 0x40, 0x50, 0x51, 0x54, 0x55, 0x56)
		}
	}
	if len(b) >= 6 && r.Intn(8) > 0 {
		binary.BigEndian.PutUint32(b[2:], uint32(len(b)-6))
	}
	return b
}

// TestSomeWritten: PDUs, as they must be and spoilt, against the model.
func TestSomeWritten(t *testing.T) {
	t.Parallel()
	r := rand.New(rand.NewSource(81))
	count := [2]int{}
	for range 15000 {
		p := somePdu(r)
		for r.Intn(2) == 0 {
			spoilPdu(r, &p)
		}
		if holdEncode(t, p) {
			count[0]++
		} else {
			count[1]++
		}
	}
	if min(count[0], count[1]) < 2500 {
		t.Errorf("the tests' own PDUs: written and refused %v", count)
	}
}

// TestSomeRead: bytes, as they must be and spoilt, against the model.
func TestSomeRead(t *testing.T) {
	t.Parallel()
	r := rand.New(rand.NewSource(82))
	count := [2]int{}
	for range 60000 {
		var b []byte
		if r.Intn(4) > 0 {
			b = someUnit(r)
		} else {
			b, _, _ = modelEncode(somePdu(r))
		}
		for r.Intn(3) == 0 {
			b = spoilBytes(r, b)
		}
		if holdDecode(t, b) {
			count[0]++
		} else {
			count[1]++
		}
	}
	if min(count[0], count[1]) < 8000 {
		t.Errorf("the tests' own bytes: read and refused %v", count)
	}
}

// TestEachByte: each byte of some PDUs takes each value, and each piece of them is cut off, its length put right or not.
func TestEachByte(t *testing.T) {
	t.Parallel()
	for _, p := range []api.Pdu{full(), fullAccept(), data(api.Pdv{Context: 1, Data: raw(0, 0, 0, 2, 1, 0)}, api.Pdv{Context: 3, Last: true}), {Kind: api.PduRJ, Result: 1}} {
		b, err := pdu.Encode(p)
		if err != nil {
			t.Fatal(err)
		}
		for at := range b {
			old := b[at]
			for value := range 256 {
				b[at] = byte(value)
				holdDecode(t, b)
			}
			b[at] = old
			holdDecode(t, b[:at])
			if at >= 6 {
				holdDecode(t, unit(b[0], b[6:at]))
			}
		}
	}
}
