package pdu_test

import (
	"fmt"
	"slices"
	"strings"
	"testing"

	"modality/api"
	"modality/pdu"
)

// longest is a request of just this length.
func longest(t *testing.T, length int) api.Pdu {
	t.Helper()
	p := request()
	p.Assoc.User.Others = []api.UserItem{{Type: 0x60, Data: slices.Repeat(raw(7), length-101-4)}}
	return p
}

// wantLength fails if a PDU is not written with this length, or if that is not read as the PDU.
func wantLength(t *testing.T, p api.Pdu, length int) {
	t.Helper()
	b, err := pdu.Encode(p)
	if err != nil || len(b) != 6+length || int(b[2])<<24+int(b[3])<<16+int(b[4])<<8+int(b[5]) != length {
		t.Fatalf("P8.4: %d bytes, %v; want 6 + %d", len(b), err, length)
	}
	if back, err := pdu.Decode(b); err != nil || !same(back, clone(p)) {
		t.Fatalf("P8.3: a PDU of the length %d: %s, %v", length, shown(back), err)
	}
}

// wantEdge fails if a PDU of this length is not written or refused as it must be.
func wantEdge(t *testing.T, p api.Pdu, length int) {
	t.Helper()
	if length > 32768 {
		wantUnwritten(t, p, api.ErrPduLong, 0)
	} else {
		wantLength(t, p, length)
	}
}

// TestDataLengths: the length of a P-DATA-TF is the sum of its PDVs', each 6 and its bytes.
func TestDataLengths(t *testing.T) {
	for _, c := range []struct{ count, size int }{{1, 0}, {1, 1}, {1, 255}, {1, 256}, {1, 16377}, {1, 16378}, {2, 8186}, {3, 100}, {2340, 1}, {2730, 0}, {128, 122}} {
		p := data()
		for i := range c.count {
			p.Values = append(p.Values, api.Pdv{Context: uint8(2*i + 1), Data: slices.Repeat(raw(byte(i)), c.size)})
		}
		wantLength(t, p, c.count*(6+c.size))
		last := &p.Values[c.count-1]
		left := 16384 - c.count*(6+c.size)
		last.Data = append(last.Data, make([]byte, left)...)
		wantLength(t, p, 16384)
		last.Data = append(last.Data, 0)
		wantUnwritten(t, p, api.ErrPduLong, 0)
		last.Data = last.Data[:len(last.Data)-1]
		p.Values = append(p.Values, api.Pdv{Context: 1})
		wantUnwritten(t, p, api.ErrPduLong, 0)
	}
	many := data(slices.Repeat([]api.Pdv{{Context: 1}}, 1<<20)...)
	wantUnwritten(t, many, api.ErrPduLong, 0)
	wantUnwritten(t, data(api.Pdv{Context: 1, Data: make([]byte, 1<<24)}), api.ErrPduLong, 0)
}

// TestAssociateLengths: up to MaxAssociate, and one more.
func TestAssociateLengths(t *testing.T) {
	wantLength(t, request(), 68+7+(4+4+7+7)+4)
	for _, length := range []int{105, 255, 256, 257, 511, 4096, 32767, 32768} {
		wantLength(t, longest(t, length), length)
	}
	for _, length := range []int{32769, 32770, 65535, 65536, 65537 + 105, 65535 + 105, 1 << 20} {
		wantUnwritten(t, longest(t, length), api.ErrPduLong, 0)
	}
	wantUnread(t, unit(1, titled("A", "B"), app(), asked(1), item(0x50), item(0x77, make([]byte, 32769-101-4))), api.ErrPduLength, 2)
	wantPdu(t, unit(1, titled("A", "B"), app(), asked(1), item(0x50), item(0x77, make([]byte, 32768-101-4))), request())
}

// TestLongLists: what is too long by many parts, of each kind.
func TestLongLists(t *testing.T) {
	p := request()
	p.Assoc.Contexts[0].Syntaxes = slices.Repeat([]string{strings.Repeat("1", 64)}, 1<<16)
	wantUnwritten(t, p, api.ErrPduLong, 0)
	p.Assoc.Contexts[0].Syntaxes = p.Assoc.Contexts[0].Syntaxes[:480]
	wantLength(t, p, 101-7+480*68)
	p.Assoc.Contexts[0].Syntaxes = p.Assoc.Contexts[0].Syntaxes[:481]
	wantUnwritten(t, p, api.ErrPduLong, 0)
	p.Assoc.Contexts[0].Syntaxes = p.Assoc.Contexts[0].Syntaxes[:480]
	for size := 29; size <= 31; size++ {
		p.Assoc.User.Class = strings.Repeat("2", size)
		wantEdge(t, p, 101-7+480*68+4+size)
	}
	p.Assoc.User.Class = strings.Repeat("2", 14)
	for size := 11; size <= 13; size++ {
		p.Assoc.User.Name = strings.Repeat("n", size)
		wantEdge(t, p, 101-7+480*68+4+14+4+size)
	}
	p = request()
	for i := range 1 << 16 {
		p.Assoc.User.Roles = append(p.Assoc.User.Roles, api.Role{Class: fmt.Sprintf("1.%05d", i), Scu: 1})
	}
	wantUnwritten(t, p, api.ErrPduLong, 0)
	p.Assoc.User.Roles = p.Assoc.User.Roles[:2177]
	wantLength(t, p, 101+2177*15)
	p.Assoc.User.Roles[2176].Class = p.Assoc.User.Roles[0].Class
	wantUnwritten(t, p, api.ErrPduField, 13)
	p = request()
	p.Assoc.User.Others = slices.Repeat([]api.UserItem{{Type: 0x60}}, 8166)
	wantLength(t, p, 101+8166*4)
	p.Assoc.User.Others = append(p.Assoc.User.Others, api.UserItem{Type: 0x60})
	wantUnwritten(t, p, api.ErrPduLong, 0)
}

// TestManyContexts: all odd numbers, and one more.
func TestManyContexts(t *testing.T) {
	rq, ac := request(), accept()
	rq.Assoc.Contexts, ac.Assoc.Contexts = nil, nil
	for id := 255; id > 0; id -= 2 {
		rq.Assoc.Contexts = append(rq.Assoc.Contexts, api.PresContext{Id: uint8(id), Class: "1", Syntaxes: []string{"2"}})
		ac.Assoc.Contexts = append(ac.Assoc.Contexts, api.PresContext{Id: uint8(id), Result: uint8(id%4 + 1)})
	}
	wantLength(t, rq, 68+7+128*18+4)
	wantLength(t, ac, 68+7+128*8+4)
	for _, p := range []api.Pdu{rq, ac} {
		p.Assoc.Contexts = append(p.Assoc.Contexts, p.Assoc.Contexts[0])
		wantUnwritten(t, p, api.ErrPduContext, 12)
		p.Assoc.Contexts = make([]api.PresContext, 129)
		wantUnwritten(t, p, api.ErrPduContext, 12)
		p.Assoc.Contexts = nil
		wantUnwritten(t, p, api.ErrPduContext, 12)
		p.Assoc.Contexts = []api.PresContext{}
		wantUnwritten(t, p, api.ErrPduContext, 12)
	}
}

// TestLastContext: a context is told by its place, the last one too.
func TestLastContext(t *testing.T) {
	p := request()
	for id := 3; id < 256; id += 2 {
		p.Assoc.Contexts = append(p.Assoc.Contexts, api.PresContext{Id: uint8(id), Class: "1", Syntaxes: []string{"2"}})
	}
	for i := range p.Assoc.Contexts {
		q := clone(p)
		q.Assoc.Contexts[i].Id--
		wantUnwritten(t, q, api.ErrPduContext, 20+i)
		q = clone(p)
		q.Assoc.Contexts[i].Class = "x"
		wantUnwritten(t, q, api.ErrPduText, 20+i)
	}
}
