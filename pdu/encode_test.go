package pdu_test

import (
	"math"
	"slices"
	"strings"
	"testing"

	"modality/api"
	"modality/pdu"
)

// TestWritten: one PDU of each kind, each byte of it.
func TestWritten(t *testing.T) {
	wantBytes(t, api.Pdu{Kind: api.PduRJ, Result: 1, Source: 2, Reason: 3}, raw(3, 0, 0, 0, 0, 4, 0, 1, 2, 3))
	wantBytes(t, api.Pdu{Kind: api.PduRJ, Result: 255, Source: 254, Reason: 253}, raw(3, 0, 0, 0, 0, 4, 0, 255, 254, 253))
	wantBytes(t, api.Pdu{Kind: api.PduReleaseRQ}, raw(5, 0, 0, 0, 0, 4, 0, 0, 0, 0))
	wantBytes(t, api.Pdu{Kind: api.PduReleaseRP}, raw(6, 0, 0, 0, 0, 4, 0, 0, 0, 0))
	wantBytes(t, api.Pdu{Kind: api.PduAbort, Source: 2, Reason: 6}, raw(7, 0, 0, 0, 0, 4, 0, 0, 2, 6))
	wantBytes(t, api.Pdu{Kind: api.PduAbort}, raw(7, 0, 0, 0, 0, 4, 0, 0, 0, 0))
	wantBytes(t, data(api.Pdv{Context: 1, Command: true, Last: true, Data: raw(0xAA, 0xBB)}), raw(4, 0, 0, 0, 0, 8, 0, 0, 0, 4, 1, 3, 0xAA, 0xBB))
	wantBytes(t, data(api.Pdv{Context: 255}), raw(4, 0, 0, 0, 0, 6, 0, 0, 0, 2, 255, 0))
	wantBytes(t, data(api.Pdv{Context: 3, Command: true, Data: raw(7)}, api.Pdv{Context: 3, Last: true}), raw(4, 0, 0, 0, 0, 13, 0, 0, 0, 3, 3, 1, 7, 0, 0, 0, 2, 3, 2))
}

// TestAssociateWritten: the items and their order, in a request and in an accept.
func TestAssociateWritten(t *testing.T) {
	small := associate(1, app(), asked(1), item(0x50))
	if small[5] != 101 || len(small) != 107 {
		t.Fatalf("the tests' own bytes: %s", hex(small))
	}
	wantBytes(t, request(), small)
	wantBytes(t, accept(), associate(2, app(), answered(1, 0, item(0x40, text("1.4"))), answered(3, 4), item(0x50)))
	items := slices.Concat(
		item(0x51, raw(1, 2, 3, 4)), item(0x52, text("1.9")), item(0x53, raw(5, 6, 7, 8)),
		item(0x54, raw(0, 3), text("1.3"), raw(1, 0)), item(0x54, raw(0, 4), text("1.33"), raw(0, 1)),
		item(0x55, text(" N ")), item(0x58, raw(9, 0)), item(0x56), item(0xFF, raw(7)), item(0x58, raw(9, 0)))
	second := item(0x20, raw(255, 0, 0, 0), item(0x30, text("1.33")), item(0x40, text("1.4")), item(0x40, text("1.5")), item(0x40, text("1.4")))
	rq := associate(1, app(), asked(1), second, item(0x50, items))
	rq[6], rq[7] = 0xFF, 1
	wantBytes(t, full(), rq)
	wantBytes(t, fullAccept(), associate(2, app(), answered(1, 0, item(0x40, text("1.4"))), answered(3, 4), item(0x50, items)))
}

// TestSinglyTold: each part of the user information stands there if it is told, also where it is 0, and nothing else does.
func TestSinglyTold(t *testing.T) {
	for _, c := range []struct {
		u     api.UserInfo
		items []byte
	}{
		{api.UserInfo{HasMax: true}, item(0x51, raw(0, 0, 0, 0))},
		{api.UserInfo{HasMax: true, MaxLength: math.MaxUint32}, item(0x51, raw(255, 255, 255, 255))},
		{api.UserInfo{Class: "1"}, item(0x52, text("1"))},
		{api.UserInfo{HasOps: true}, item(0x53, raw(0, 0, 0, 0))},
		{api.UserInfo{HasOps: true, Invoked: 1}, item(0x53, raw(0, 1, 0, 0))},
		{api.UserInfo{HasOps: true, Performed: 0xFFFF}, item(0x53, raw(0, 0, 255, 255))},
		{api.UserInfo{Roles: []api.Role{{Class: "1"}}}, item(0x54, raw(0, 1), text("1"), raw(0, 0))},
		{api.UserInfo{Roles: []api.Role{{Class: "2", Scu: 1, Scp: 1}, {Class: "1"}}}, append(item(0x54, raw(0, 1), text("2"), raw(1, 1)), item(0x54, raw(0, 1), text("1"), raw(0, 0))...)},
		{api.UserInfo{Name: " "}, item(0x55, text(" "))},
		{api.UserInfo{Others: []api.UserItem{{Type: 0x56}}}, item(0x56)},
	} {
		p := request()
		p.Assoc.User = c.u
		wantBytes(t, p, inUser(c.items))
	}
}

// TestKindRefused: of all numbers seven are kinds, also where a byte can't hold them.
func TestKindRefused(t *testing.T) {
	for _, kind := range []int{math.MinInt, -256, -255, -249, -1, 0, 8, 9, 255, 256, 257, 263, 1<<32 + 5, math.MaxInt} {
		wantUnwritten(t, api.Pdu{Kind: kind}, api.ErrPduKind, 0)
		wantUnwritten(t, api.Pdu{Kind: kind, Assoc: request().Assoc, Result: 1, Values: make([]api.Pdv, 1)}, api.ErrPduKind, 0)
	}
}

// parts is every part of a PDU, each with the number of the field in which it is.
func parts() []struct {
	field int
	put   func(p *api.Pdu)
} {
	return []struct {
		field int
		put   func(p *api.Pdu)
	}{
		{1, func(p *api.Pdu) { p.Assoc.Version = 256 }},
		{1, func(p *api.Pdu) { p.Assoc.Called = " " }},
		{1, func(p *api.Pdu) { p.Assoc.Calling = "B" }},
		{1, func(p *api.Pdu) { p.Assoc.App = "1" }},
		{1, func(p *api.Pdu) { p.Assoc.Contexts = make([]api.PresContext, 1) }},
		{1, func(p *api.Pdu) { p.Assoc.User.HasMax = true }},
		{1, func(p *api.Pdu) { p.Assoc.User.MaxLength = 1 << 31 }},
		{1, func(p *api.Pdu) { p.Assoc.User.Class = "1" }},
		{1, func(p *api.Pdu) { p.Assoc.User.Name = "N" }},
		{1, func(p *api.Pdu) { p.Assoc.User.HasOps = true }},
		{1, func(p *api.Pdu) { p.Assoc.User.Invoked = 1 }},
		{1, func(p *api.Pdu) { p.Assoc.User.Performed = 256 }},
		{1, func(p *api.Pdu) { p.Assoc.User.Roles = make([]api.Role, 1) }},
		{1, func(p *api.Pdu) { p.Assoc.User.Others = make([]api.UserItem, 1) }},
		{2, func(p *api.Pdu) { p.Result = 1 }},
		{3, func(p *api.Pdu) { p.Source = 128 }},
		{4, func(p *api.Pdu) { p.Reason = 255 }},
		{5, func(p *api.Pdu) { p.Values = make([]api.Pdv, 1) }},
	}
}

// TestUnusedRefused: each part alone, and each two, in a PDU of each kind: what is told is the first field that the kind does not use.
func TestUnusedRefused(t *testing.T) {
	uses := map[int]string{api.PduRQ: "1", api.PduAC: "1", api.PduRJ: "234", api.PduData: "5", api.PduReleaseRQ: "", api.PduReleaseRP: "", api.PduAbort: "34"}
	for kind, used := range uses {
		for _, one := range parts() {
			for _, other := range parts() {
				first := 9
				for _, c := range []int{one.field, other.field} {
					if !strings.Contains(used, string(rune('0'+c))) {
						first = min(first, c)
					}
				}
				if first == 9 {
					continue
				}
				p := api.Pdu{Kind: kind}
				one.put(&p)
				other.put(&p)
				wantUnwritten(t, p, api.ErrPduField, first)
			}
		}
	}
}

// TestUnusedEmpty: lists without elements are as good as none.
func TestUnusedEmpty(t *testing.T) {
	p := api.Pdu{Kind: api.PduReleaseRQ, Values: []api.Pdv{}}
	p.Assoc.Contexts, p.Assoc.User.Roles, p.Assoc.User.Others = []api.PresContext{}, []api.Role{}, []api.UserItem{}
	wantBytes(t, p, unit(5, make([]byte, 4)))
	p = request()
	p.Values, p.Assoc.User.Roles, p.Assoc.User.Others = []api.Pdv{}, []api.Role{}, []api.UserItem{{Type: 0x56, Data: []byte{}}}
	wantBytes(t, p, inUser(item(0x56)))
	wantBytes(t, data(api.Pdv{Context: 1, Data: []byte{}}), raw(4, 0, 0, 0, 0, 6, 0, 0, 0, 2, 1, 0))
	p = accept()
	p.Assoc.Contexts[1].Syntaxes = []string{}
	wantBytes(t, p, associate(2, app(), answered(1, 0, item(0x40, text("1.4"))), answered(3, 4), item(0x50)))
}

// spoil is something that makes Encode refuse an A-ASSOCIATE.
type spoil struct {
	code api.Errno
	at   int
	put  func(a *api.Associate)
}

// spoils is them all, in the order in which they are told; they hold for a request and an accept of two contexts or more, whose Ids are odd.
func spoils() []spoil {
	long := strings.Repeat("A", 17)
	return []spoil{
		{api.ErrPduText, 10, func(a *api.Associate) { a.Called = "" }},
		{api.ErrPduText, 10, func(a *api.Associate) { a.Called = long }},
		{api.ErrPduText, 10, func(a *api.Associate) { a.Calling = " B" }},
		{api.ErrPduText, 10, func(a *api.Associate) { a.Calling = `B\C` }},
		{api.ErrPduText, 11, func(a *api.Associate) { a.App = "" }},
		{api.ErrPduText, 11, func(a *api.Associate) { a.App = "1.2 " }},
		{api.ErrPduContext, 20, func(a *api.Associate) { a.Contexts[0].Id = 2 }},
		{api.ErrPduText, 20, func(a *api.Associate) { a.Contexts[0].Syntaxes = []string{"x"} }},
		{api.ErrPduContext, 21, func(a *api.Associate) { a.Contexts[1].Id = 0 }},
		{api.ErrPduContext, 21, func(a *api.Associate) { a.Contexts[1].Id = a.Contexts[0].Id }},
		{api.ErrPduField, 13, func(a *api.Associate) { a.User.HasMax, a.User.MaxLength = false, 1 }},
		{api.ErrPduField, 13, func(a *api.Associate) { a.User.HasOps, a.User.Invoked = false, 1 }},
		{api.ErrPduField, 13, func(a *api.Associate) { a.User.HasOps, a.User.Performed = false, 1 }},
		{api.ErrPduField, 13, func(a *api.Associate) { a.User.Roles = append(a.User.Roles, api.Role{Class: "7", Scu: 2}) }},
		{api.ErrPduField, 13, func(a *api.Associate) { a.User.Roles = append(a.User.Roles, api.Role{Class: "8", Scp: 255}) }},
		{api.ErrPduField, 13, func(a *api.Associate) { a.User.Roles = append(a.User.Roles, api.Role{}, api.Role{}) }},
		{api.ErrPduField, 13, func(a *api.Associate) { a.User.Others = append(a.User.Others, api.UserItem{Type: 0x55}) }},
		{api.ErrPduText, 13, func(a *api.Associate) { a.User.Class = "1.9\x00" }},
		{api.ErrPduText, 13, func(a *api.Associate) { a.User.Name = long }},
		{api.ErrPduText, 13, func(a *api.Associate) { a.User.Roles = append(a.User.Roles, api.Role{Class: "a"}) }},
		{api.ErrPduLong, 0, func(a *api.Associate) {
			a.User.Others = append(a.User.Others, api.UserItem{Type: 0x60, Data: make([]byte, 32768)})
		}},
	}
}

// TestAssociateRefused: each reason alone, and of each two the first.
func TestAssociateRefused(t *testing.T) {
	list := spoils()
	for i := range list {
		for j := i; j < len(list); j++ {
			for _, p := range []api.Pdu{full(), fullAccept()} {
				list[i].put(&p.Assoc)
				if j > i {
					list[j].put(&p.Assoc)
				}
				wantUnwritten(t, p, list[i].code, list[i].at)
			}
		}
	}
}

// TestContextsRefused: what a context may be in a request and in an accept.
func TestContextsRefused(t *testing.T) {
	one, two := []string{"1"}, []string{"1", "2"}
	for _, c := range []struct {
		kind    int
		context api.PresContext
		code    api.Errno
	}{
		{api.PduRQ, api.PresContext{Id: 3, Class: "1", Syntaxes: one}, api.OK},
		{api.PduRQ, api.PresContext{Id: 3, Class: "1", Syntaxes: two}, api.OK},
		{api.PduRQ, api.PresContext{Id: 2, Class: "1", Syntaxes: one}, api.ErrPduContext},
		{api.PduRQ, api.PresContext{Id: 1, Class: "1", Syntaxes: one}, api.ErrPduContext},
		{api.PduRQ, api.PresContext{Id: 3, Result: 1, Class: "1", Syntaxes: one}, api.ErrPduContext},
		{api.PduRQ, api.PresContext{Id: 3, Class: "1"}, api.ErrPduContext},
		{api.PduRQ, api.PresContext{Id: 3}, api.ErrPduContext},
		{api.PduRQ, api.PresContext{Id: 3, Syntaxes: one}, api.ErrPduText},
		{api.PduRQ, api.PresContext{Id: 3, Class: "1", Syntaxes: []string{"1", ""}}, api.ErrPduText},
		{api.PduRQ, api.PresContext{Id: 3, Class: "1", Syntaxes: []string{"x", "1"}}, api.ErrPduText},
		{api.PduRQ, api.PresContext{Id: 3, Result: 1, Class: "x", Syntaxes: []string{"x"}}, api.ErrPduContext},
		{api.PduAC, api.PresContext{Id: 3, Syntaxes: one}, api.OK},
		{api.PduAC, api.PresContext{Id: 3, Result: 1}, api.OK},
		{api.PduAC, api.PresContext{Id: 3, Result: 4}, api.OK},
		{api.PduAC, api.PresContext{Id: 4, Syntaxes: one}, api.ErrPduContext},
		{api.PduAC, api.PresContext{Id: 1, Syntaxes: one}, api.ErrPduContext},
		{api.PduAC, api.PresContext{Id: 3, Class: "1", Syntaxes: one}, api.ErrPduContext},
		{api.PduAC, api.PresContext{Id: 3, Class: "1", Result: 3}, api.ErrPduContext},
		{api.PduAC, api.PresContext{Id: 3, Result: 5}, api.ErrPduContext},
		{api.PduAC, api.PresContext{Id: 3, Result: 255}, api.ErrPduContext},
		{api.PduAC, api.PresContext{Id: 3}, api.ErrPduContext},
		{api.PduAC, api.PresContext{Id: 3, Syntaxes: two}, api.ErrPduContext},
		{api.PduAC, api.PresContext{Id: 3, Result: 3, Syntaxes: one}, api.ErrPduContext},
		{api.PduAC, api.PresContext{Id: 3, Syntaxes: []string{""}}, api.ErrPduText},
		{api.PduAC, api.PresContext{Id: 3, Result: 3, Syntaxes: []string{""}}, api.ErrPduContext},
	} {
		p := request()
		if c.kind == api.PduAC {
			p = accept()
		}
		p.Assoc.Contexts = append(p.Assoc.Contexts[:1], c.context)
		if _, err := pdu.Encode(p); !is(err, c.code, 21) {
			t.Errorf("P8.1: %s: %v, want %d at 21", shown(p), err, c.code)
		}
	}
}

// TestTypesOfOthers: a user item that this layer reads, or that no user item is, is none of the others.
func TestTypesOfOthers(t *testing.T) {
	for kind := range 256 {
		p := request()
		p.Assoc.User.Others = []api.UserItem{{Type: 0x56}, {Type: uint8(kind), Data: raw(1)}}
		if kind < 0x56 {
			wantUnwritten(t, p, api.ErrPduField, 13)
		} else {
			wantBytes(t, p, inUser(item(0x56), item(byte(kind), raw(1))))
		}
	}
}

// TestRoles: each Scu and Scp is 0 or 1, no class is there twice.
func TestRoles(t *testing.T) {
	for n := range 256 {
		for _, role := range []api.Role{{Class: "1", Scu: uint8(n)}, {Class: "1", Scp: uint8(n)}} {
			p := request()
			p.Assoc.User.Roles = []api.Role{{Class: "2"}, role}
			if n > 1 {
				wantUnwritten(t, p, api.ErrPduField, 13)
			} else {
				wantBytes(t, p, inUser(item(0x54, raw(0, 1), text("2"), raw(0, 0)), item(0x54, raw(0, 1), text("1"), raw(role.Scu, role.Scp))))
			}
		}
	}
	p := request()
	p.Assoc.User.Roles = []api.Role{{Class: "1"}, {Class: "2"}, {Class: "1", Scu: 1}}
	wantUnwritten(t, p, api.ErrPduField, 13)
}

// TestDataRefused: a P-DATA-TF has PDVs, each of a context.
func TestDataRefused(t *testing.T) {
	wantUnwritten(t, data(), api.ErrPduItem, 5)
	wantUnwritten(t, api.Pdu{Kind: api.PduData, Values: []api.Pdv{}}, api.ErrPduItem, 5)
	for id := range 256 {
		p := data(api.Pdv{Context: 1}, api.Pdv{Context: uint8(id)})
		if id%2 == 0 {
			wantUnwritten(t, p, api.ErrPduContext, 5)
			p.Values[0].Data = make([]byte, 20000)
			wantUnwritten(t, p, api.ErrPduContext, 5)
		} else {
			wantBytes(t, p, raw(4, 0, 0, 0, 0, 12, 0, 0, 0, 2, 1, 0, 0, 0, 0, 2, byte(id), 0))
		}
	}
}
