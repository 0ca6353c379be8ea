package pdu_test

import (
	"encoding/binary"
	"slices"
	"testing"

	"modality/api"
	"modality/pdu"
)

// TestHeadRefused: too few bytes, no kind, a length that may not be, other than 6 + L bytes.
func TestHeadRefused(t *testing.T) {
	for n := range 6 {
		wantUnread(t, make([]byte, n), api.ErrPduShort, n)
		wantUnread(t, raw(5, 0, 0, 0, 0, 4)[:n], api.ErrPduShort, n)
	}
	for kind := range 256 {
		if kind >= 1 && kind <= 7 {
			continue
		}
		wantUnread(t, raw(byte(kind), 0, 0, 0, 0, 0), api.ErrPduKind, 0)
		wantUnread(t, raw(byte(kind), 0, 255, 255, 255, 255, 1), api.ErrPduKind, 0)
	}
	for _, kind := range raw(3, 5, 6, 7) {
		for size := range 9 {
			if size != 4 {
				wantUnread(t, unit(kind, make([]byte, size)), api.ErrPduLength, 2)
			}
		}
	}
	whole := map[string][]byte{"RQ": associate(1, app(), asked(1), item(0x50)), "AC": inAnswered(3), "RJ": unit(3, make([]byte, 4)), "Data": unit(4, raw(0, 0, 0, 2, 1, 0)), "Abort": unit(7, make([]byte, 4))}
	for _, b := range whole {
		if _, err := pdu.Decode(b); err != nil {
			t.Fatalf("P8.2: %s: %v", hex(b), err)
		}
		wantUnread(t, b[:len(b)-1], api.ErrPduLength, 2)
		wantUnread(t, b[:6], api.ErrPduLength, 2)
		wantUnread(t, append(slices.Clone(b), 0), api.ErrPduLength, 2)
	}
}

// withLength is a head alone with any length.
func withLength(kind byte, length uint32) []byte {
	return binary.BigEndian.AppendUint32(raw(kind, 0), length)
}

// TestLengths: the greatest lengths are told at the head, whatever else is there.
func TestLengths(t *testing.T) {
	for _, c := range []struct {
		kind   byte
		length uint32
	}{{1, 32769}, {2, 32769}, {4, 16385}, {1, 1 << 31}, {2, 1<<32 - 1}, {4, 1 << 31}, {4, 1<<32 - 1}, {3, 1<<32 - 1}, {5, 260}, {6, 1<<24 + 4}, {7, 1<<31 + 4}} {
		wantUnread(t, withLength(c.kind, c.length), api.ErrPduLength, 2)
		wantUnread(t, append(withLength(c.kind, c.length), make([]byte, c.length%40000)...), api.ErrPduLength, 2)
	}
	for length := range 68 {
		wantUnread(t, unit(1, titled("A", "B")[:length]), api.ErrPduLength, 2)
		wantUnread(t, unit(2, make([]byte, length)), api.ErrPduLength, 2)
	}
	wantUnread(t, associate(1), api.ErrPduItem, 74)
	wantUnread(t, associate(2), api.ErrPduItem, 74)
}

// TestUnlooked: bytes that are called 0 are not looked at, and fields that a kind has not stay zero.
func TestUnlooked(t *testing.T) {
	wantPdu(t, raw(3, 9, 0, 0, 0, 4, 9, 1, 2, 3), api.Pdu{Kind: api.PduRJ, Result: 1, Source: 2, Reason: 3})
	wantPdu(t, raw(5, 9, 0, 0, 0, 4, 9, 9, 9, 9), api.Pdu{Kind: api.PduReleaseRQ})
	wantPdu(t, raw(6, 9, 0, 0, 0, 4, 9, 9, 9, 9), api.Pdu{Kind: api.PduReleaseRP})
	wantPdu(t, raw(7, 9, 0, 0, 0, 4, 9, 9, 2, 6), api.Pdu{Kind: api.PduAbort, Source: 2, Reason: 6})
	for bits := range 256 {
		wantPdu(t, raw(4, 9, 0, 0, 0, 7, 0, 0, 0, 3, 1, byte(bits), 5), data(api.Pdv{Context: 1, Command: bits&1 != 0, Last: bits&2 != 0, Data: raw(5)}))
	}
	b := inUser(item(0x51, raw(1, 2, 3, 4)), item(0x54, raw(0, 1), text("1"), raw(1, 0)))
	for _, at := range []int{1, 8, 9, 42, 57, 73, 75, 82, 86, 87, 88, 90, 97, 104, 108, 116} {
		b[at] = 0xEE
	}
	want := request()
	want.Assoc.User = api.UserInfo{HasMax: true, MaxLength: 0x01020304, Roles: []api.Role{{Class: "1", Scu: 1}}}
	wantPdu(t, b, want)
	b = inAnswered(0, item(0x40, text("1.4")))
	for _, at := range []int{1, 8, 9, 42, 73, 75, 82, 86, 88, 90, 97} {
		b[at] = 0xEE
	}
	want = accept()
	want.Assoc.Contexts = want.Assoc.Contexts[:1]
	wantPdu(t, b, want)
}

// TestValuesRead: PDVs one behind the other, and the first that is wrong.
func TestValuesRead(t *testing.T) {
	good := raw(0, 0, 0, 3, 1, 1, 7)
	wantPdu(t, unit(4, good, raw(0, 0, 0, 2, 255, 2), good), data(api.Pdv{Context: 1, Command: true, Data: raw(7)}, api.Pdv{Context: 255, Last: true}, api.Pdv{Context: 1, Command: true, Data: raw(7)}))
	wantUnread(t, unit(4), api.ErrPduItem, 6)
	for _, c := range []struct {
		value []byte
		code  api.Errno
	}{
		{raw(0), api.ErrPduLength},
		{raw(0, 0, 0), api.ErrPduLength},
		{raw(0, 0, 0, 0), api.ErrPduLength},
		{raw(0, 0, 0, 2), api.ErrPduLength},
		{raw(0, 0, 0, 0, 1, 1), api.ErrPduLength},
		{raw(0, 0, 0, 1, 1, 1), api.ErrPduLength},
		{raw(0, 0, 0, 1, 2), api.ErrPduLength},
		{raw(0, 0, 0, 2, 1), api.ErrPduLength},
		{raw(0, 0, 0, 3, 1, 1), api.ErrPduLength},
		{raw(0, 0, 0, 3, 2, 1), api.ErrPduLength},
		{raw(255, 255, 255, 255, 1, 1), api.ErrPduLength},
		{raw(128, 0, 0, 2, 1, 1), api.ErrPduLength},
		{raw(0, 1, 0, 2, 1, 1), api.ErrPduLength},
		{raw(0, 0, 0, 2, 0, 1), api.ErrPduContext},
		{raw(0, 0, 0, 2, 254, 1), api.ErrPduContext},
		{raw(0, 0, 0, 2, 2, 1, 0), api.ErrPduContext},
	} {
		wantUnread(t, unit(4, c.value), c.code, 6)
		wantUnread(t, unit(4, good, good, c.value), c.code, 20)
	}
	for id := range 256 {
		if b := unit(4, good, raw(0, 0, 0, 2, byte(id), 1)); id%2 == 0 {
			wantUnread(t, b, api.ErrPduContext, 13)
		} else {
			wantPdu(t, b, data(api.Pdv{Context: 1, Command: true, Data: raw(7)}, api.Pdv{Context: uint8(id), Command: true}))
		}
	}
}

// TestItemsCut: an item whose head or body is not all there is told at its first byte, on each level.
func TestItemsCut(t *testing.T) {
	for _, kind := range raw(0x00, 0x10, 0x20, 0x21, 0x30, 0x40, 0x50, 0x51, 0x54, 0x55, 0x56, 0xFF) {
		for _, cut := range [][]byte{raw(kind), raw(kind, 0), raw(kind, 0, 0), raw(kind, 0, 0, 1), raw(kind, 0, 0, 3, '1', '.'), raw(kind, 0, 1, 2, '1', '.'), raw(kind, 0, 255, 255, 1)} {
			whole := [][]byte{app(), asked(1), item(0x50)}
			wantUnread(t, associate(1, append(whole, cut)...), api.ErrPduLength, 107)
			wantUnread(t, associate(2, cut), api.ErrPduLength, 74)
			wantUnread(t, inAsked(item(0x30, text("1.3")), item(0x40, text("1.4")), cut), api.ErrPduLength, 103)
			wantUnread(t, inAnswered(0, item(0x40, text("1.4")), cut), api.ErrPduLength, 96)
			wantUnread(t, inAnswered(2, cut), api.ErrPduLength, 89)
			wantUnread(t, inUser(item(0x55, text("N")), cut), api.ErrPduLength, 112)
		}
	}
}

// TestItemLengths: user items of a fixed length, and contexts with fewer than 4 bytes.
func TestItemLengths(t *testing.T) {
	for size := range 9 {
		for _, kind := range raw(0x51, 0x53) {
			b := inUser(item(0x55, text("N")), item(kind, make([]byte, size)))
			if size != 4 {
				wantUnread(t, b, api.ErrPduLength, 112)
			} else if _, err := pdu.Decode(b); err != nil {
				t.Errorf("P8.2: %s: %v", hex(b), err)
			}
		}
		if size < 4 {
			wantUnread(t, associate(1, app(), asked(1), item(0x20, raw(2, 0, 0, 0)[:size])), api.ErrPduLength, 103)
			wantUnread(t, associate(2, app(), item(0x21, raw(2, 0, 9, 0)[:size])), api.ErrPduLength, 81)
			wantUnread(t, inUser(item(0x54, make([]byte, size))), api.ErrPduLength, 107)
		}
	}
	for told := range 6 {
		b := inUser(item(0x54, raw(0, byte(told)), text("12"), raw(1, 1)))
		if told != 2 {
			wantUnread(t, b, api.ErrPduLength, 107)
		} else if _, err := pdu.Decode(b); err != nil {
			t.Errorf("P8.2: %s: %v", hex(b), err)
		}
	}
	wantUnread(t, inUser(item(0x54, raw(1, 2), text("12"), raw(1, 1))), api.ErrPduLength, 107)
	wantUnread(t, inUser(item(0x54, raw(255, 255), text("12"), raw(1, 1))), api.ErrPduLength, 107)
	wantUnread(t, inUser(item(0x54, raw(255, 254), raw(1, 1))), api.ErrPduLength, 107)
	wantUnread(t, inUser(item(0x54, raw(0, 0), raw(1, 1))), api.ErrPduText, 113)
	wantUnread(t, inUser(item(0x54, raw(0, 0), raw(9, 9))), api.ErrPduText, 113)
}

// TestTwice: what may be there once, and what may be there again.
func TestTwice(t *testing.T) {
	user := item(0x50)
	for _, kind := range raw(1, 2) {
		context := asked(1)
		if kind == 2 {
			context = answered(1, 3, item(0x77, make([]byte, 10)))
		}
		wantUnread(t, associate(kind, app(), context, user, app()), api.ErrPduItem, 107)
		wantUnread(t, associate(kind, app(), context, user, item(0x10, text("x"))), api.ErrPduItem, 107)
		wantUnread(t, associate(kind, app(), context, user, user), api.ErrPduItem, 107)
		wantUnread(t, associate(kind, app(), context, user, item(0x50, raw(1))), api.ErrPduItem, 107)
		wantUnread(t, associate(kind, app(), app(), context, user), api.ErrPduItem, 81)
	}
	class, syntax := item(0x30, text("1.3")), item(0x40, text("1.4"))
	wantUnread(t, inAsked(class, syntax, class), api.ErrPduItem, 103)
	wantUnread(t, inAsked(class, item(0x30)), api.ErrPduItem, 96)
	wantUnread(t, inAnswered(0, syntax, syntax), api.ErrPduItem, 96)
	wantUnread(t, inAnswered(0, syntax, item(0x40, text("x"))), api.ErrPduItem, 96)
	wantUnread(t, inAnswered(4, syntax, syntax), api.ErrPduItem, 96)
	for kind, body := range map[byte][]byte{0x51: raw(0, 0, 0, 0), 0x52: text("1"), 0x53: raw(0, 0, 0, 0), 0x55: text("N")} {
		once := inUser(item(0x58), item(kind, body))
		if _, err := pdu.Decode(once); err != nil {
			t.Errorf("P8.2: %s: %v", hex(once), err)
		}
		at := 111 + len(body)
		wantUnread(t, inUser(item(kind, body), item(kind, body)), api.ErrPduItem, at)
		wantUnread(t, inUser(item(kind, body), item(kind, body), item(0x51, raw(1))), api.ErrPduItem, at)
		if kind%2 == 1 && kind != 0x55 {
			wantUnread(t, inUser(item(kind, body), item(kind, body[1:])), api.ErrPduLength, at)
		} else {
			wantUnread(t, inUser(item(kind, body), item(kind)), api.ErrPduItem, at)
		}
	}
}

// TestRolesRead: each class once, and which of a role's faults is told.
func TestRolesRead(t *testing.T) {
	role := func(class string, scu, scp byte) []byte { return item(0x54, sized(2, text(class)), raw(scu, scp)) }
	want := request()
	want.Assoc.User.Roles = []api.Role{{Class: "2", Scu: 1}, {Class: "1", Scp: 1}}
	wantPdu(t, inUser(role("2", 1, 0), role("1\x00", 0, 1)), want)
	wantUnread(t, inUser(role("2", 1, 0), role("2", 1, 0)), api.ErrPduItem, 116)
	wantUnread(t, inUser(role("2", 1, 0), role("1", 1, 0), role("2\x00\x00", 0, 0)), api.ErrPduItem, 125)
	wantUnread(t, inUser(role("2", 1, 0), role("x", 2, 0)), api.ErrPduText, 122)
	for n := range 256 {
		for _, b := range [][]byte{inUser(role("2", 0, 0), role("1", byte(n), 0)), inUser(role("2", 0, 0), role("1", 1, byte(n)))} {
			if n > 1 {
				wantUnread(t, b, api.ErrPduItem, 116)
			} else if _, err := pdu.Decode(b); err != nil {
				t.Errorf("P8.2: %s: %v", hex(b), err)
			}
		}
	}
}

// TestContextsRead: every number and every result of a context.
func TestContextsRead(t *testing.T) {
	syntax := item(0x40, text("1.4"))
	for n := range 256 {
		rq := associate(1, app(), asked(1), asked(byte(n)), item(0x50))
		ac := associate(2, app(), answered(1, 2, make([]byte, 4)), answered(byte(n), 0, syntax), item(0x50))
		if n%2 == 0 || n == 1 {
			wantUnread(t, rq, api.ErrPduContext, 103)
			wantUnread(t, ac, api.ErrPduContext, 93)
		} else {
			want := request()
			want.Assoc.Contexts = append(want.Assoc.Contexts, api.PresContext{Id: uint8(n), Class: "1.3", Syntaxes: []string{"1.4"}})
			wantPdu(t, rq, want)
			want = accept()
			want.Assoc.Contexts = []api.PresContext{{Id: 1, Result: 2}, {Id: uint8(n), Syntaxes: []string{"1.4"}}}
			wantPdu(t, ac, want)
		}
		if ac = inAnswered(byte(n), syntax); n > 4 {
			wantUnread(t, ac, api.ErrPduContext, 81)
			continue
		}
		want := accept()
		want.Assoc.Contexts = []api.PresContext{{Id: 1, Result: uint8(n)}}
		if n == 0 {
			want.Assoc.Contexts[0].Syntaxes = []string{"1.4"}
			wantUnread(t, inAnswered(0), api.ErrPduItem, 81)
		} else {
			wantPdu(t, inAnswered(byte(n)), want)
		}
		wantPdu(t, ac, want)
		wantUnread(t, inAnswered(byte(n), item(0x40, text("x"))), api.ErrPduText, 93)
	}
}

// TestContextLacks: what a context lacks is told when it ends, ahead of what follows it and behind what is in it.
func TestContextLacks(t *testing.T) {
	class, syntax, wrong := item(0x30, text("1.3")), item(0x40, text("1.4")), raw(1)
	lacking := func(items ...[]byte) []byte {
		return associate(1, app(), item(0x20, raw(1, 0, 0, 0), slices.Concat(items...)), wrong)
	}
	wantUnread(t, lacking(), api.ErrPduItem, 81)
	wantUnread(t, lacking(class), api.ErrPduItem, 81)
	wantUnread(t, lacking(syntax), api.ErrPduItem, 81)
	wantUnread(t, lacking(class, syntax), api.ErrPduLength, 103)
	wantUnread(t, lacking(syntax, class, syntax), api.ErrPduLength, 110)
	wantUnread(t, lacking(class, wrong), api.ErrPduLength, 96)
	wantUnread(t, lacking(class, item(0x40, text("x"))), api.ErrPduText, 100)
	wantUnread(t, associate(2, app(), answered(1, 0), wrong), api.ErrPduItem, 81)
	wantUnread(t, associate(2, app(), answered(1, 0, class), wrong), api.ErrPduItem, 81)
	wantUnread(t, associate(2, app(), answered(1, 0, wrong), wrong), api.ErrPduLength, 89)
	wantUnread(t, associate(2, app(), answered(1, 5, wrong), wrong), api.ErrPduContext, 81)
	wantUnread(t, associate(1, app(), item(0x20, raw(2, 0, 0, 0, 1))), api.ErrPduContext, 81)
	want := request()
	want.Assoc.Contexts[0].Syntaxes = []string{"1.4", "1.4"}
	wantPdu(t, inAsked(syntax, class, syntax), want)
}

// TestLacks: an A-ASSOCIATE has an application context, a context of its own kind and user information, in any order.
func TestLacks(t *testing.T) {
	user := item(0x50)
	for _, kind := range raw(1, 2) {
		context, other := asked(1), answered(1, 3)
		if kind == 2 {
			context, other = other, context
		}
		all := [][]byte{app(), context, user}
		for i := range all {
			less := slices.Delete(slices.Clone(all), i, i+1)
			b := associate(kind, less...)
			wantUnread(t, b, api.ErrPduItem, len(b))
			b = associate(kind, append(less, other, item(0x00), item(0x51, raw(0, 0, 0, 0)))...)
			wantUnread(t, b, api.ErrPduItem, len(b))
		}
		for _, order := range [][]int{{0, 1, 2}, {0, 2, 1}, {1, 0, 2}, {1, 2, 0}, {2, 0, 1}, {2, 1, 0}} {
			b := associate(kind, all[order[0]], all[order[1]], all[order[2]])
			if _, err := pdu.Decode(b); err != nil {
				t.Errorf("P8.2: %s: %v", hex(b), err)
			}
		}
	}
}

// TestLetGo: an item of each type in each place: read there, kept, or let go with all that is in it.
func TestLetGo(t *testing.T) {
	class, syntax := item(0x30, text("1.3")), item(0x40, text("1.4"))
	junk := raw(0xEE, 1, 0xFF, 0xFF, 0xEE)
	for n := range 256 {
		kind := byte(n)
		strange := slices.Concat(item(kind, junk), item(kind, junk), item(kind))
		if kind != 0x10 && kind != 0x20 && kind != 0x50 {
			wantPdu(t, associate(1, app(), strange, asked(1), item(0x50)), request())
		}
		ac := accept()
		ac.Assoc.Contexts = ac.Assoc.Contexts[:1]
		if kind != 0x10 && kind != 0x21 && kind != 0x50 {
			wantPdu(t, associate(2, app(), strange, answered(1, 0, syntax), item(0x50)), ac)
		}
		if kind != 0x30 && kind != 0x40 {
			wantPdu(t, inAsked(class, strange, syntax), request())
		}
		if kind != 0x40 {
			wantPdu(t, inAnswered(0, strange, syntax), ac)
		}
		want := request()
		if kind < 0x51 {
			wantPdu(t, inUser(strange), want)
		} else if kind > 0x55 {
			want.Assoc.User.Others = []api.UserItem{{Type: kind, Data: junk}, {Type: kind, Data: junk}, {Type: kind}}
			wantPdu(t, inUser(strange), want)
		}
	}
}
