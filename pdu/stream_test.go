package pdu_test

import (
	"bytes"
	"encoding/binary"
	"errors"
	"math/rand"
	"runtime"
	"slices"
	"testing"

	"modality/api"
	"modality/pdu"
)

// wantNext fails if a stream's next answer is not this one; the PDU is zero, and the error nil, where the words say so.
func wantNext(t *testing.T, s *pdu.Stream, verdict int, want api.Pdu, code api.Errno, at, held int) {
	t.Helper()
	p, v, err := s.Next()
	if v != verdict || !same(p, want) || !is(err, code, at) {
		t.Fatalf("P8.5: Next: %s, %d, %v; want %s, %d, %d at %d", shown(p), v, err, shown(want), verdict, code, at)
	}
	if s.Held() != held {
		t.Fatalf("P8.5: Held behind a Next of %d: %d, want %d", v, s.Held(), held)
	}
}

func wantNone(t *testing.T, s *pdu.Stream, held int) {
	t.Helper()
	wantNext(t, s, api.PduNone, api.Pdu{}, api.OK, 0, held)
}

// wantDead fails if a stream is not dead, or if bytes make it live again.
func wantDead(t *testing.T, s *pdu.Stream) {
	t.Helper()
	for range 2 {
		wantNext(t, s, api.PduDead, api.Pdu{}, api.OK, 0, 0)
		s.Take(raw(5, 0, 0, 0, 0, 4, 0, 0, 0, 0))
		if s.Held() != 0 {
			t.Fatalf("P8.5: a dead stream holds %d bytes", s.Held())
		}
	}
}

// TestStreamTalk: PDUs whose bytes come in pieces, and several at one time.
func TestStreamTalk(t *testing.T) {
	s := pdu.NewStream()
	wantNone(t, s, 0)
	s.Take(nil)
	s.Take([]byte{})
	wantNone(t, s, 0)
	s.Take(raw(5))
	wantNone(t, s, 1)
	wantNone(t, s, 1)
	s.Take(raw(0, 0, 0, 0, 4, 0, 0, 0))
	wantNone(t, s, 9)
	s.Take(slices.Concat(raw(0), raw(7, 0, 0, 0, 0, 4, 0, 0, 2, 6), raw(4, 0, 0)))
	if s.Held() != 23 {
		t.Errorf("P8.5: Held: %d", s.Held())
	}
	wantNext(t, s, api.PduWhole, api.Pdu{Kind: api.PduReleaseRQ}, api.OK, 0, 13)
	wantNext(t, s, api.PduWhole, api.Pdu{Kind: api.PduAbort, Source: 2, Reason: 6}, api.OK, 0, 3)
	wantNone(t, s, 3)
	s.Take(raw(0, 0, 6, 0, 0, 0, 2, 1, 3))
	wantNext(t, s, api.PduWhole, data(api.Pdv{Context: 1, Command: true, Last: true}), api.OK, 0, 0)
	wantNone(t, s, 0)
}

// TestStreamDies: of what a stream dies, and when that is told.
func TestStreamDies(t *testing.T) {
	short := unit(1, make([]byte, 67))
	for _, c := range []struct {
		b       []byte
		need    int // bytes that must be there
		verdict int
		code    api.Errno
		at      int
	}{
		{raw(4, 0, 0, 0, 0x40, 1), 6, api.PduInvalid, api.ErrPduLength, 2},
		{raw(0, 0, 0, 0, 0, 0), 6, api.PduUnknown, api.ErrPduKind, 0},
		{raw(8, 0, 0, 0, 0, 4, 0, 0, 0, 0), 6, api.PduUnknown, api.ErrPduKind, 0},
		{raw(255, 0, 255, 255, 255, 255), 6, api.PduUnknown, api.ErrPduKind, 0},
		{withLength(1, 32769), 6, api.PduInvalid, api.ErrPduLength, 2},
		{withLength(2, 1<<32-1), 6, api.PduInvalid, api.ErrPduLength, 2},
		{withLength(3, 3), 6, api.PduInvalid, api.ErrPduLength, 2},
		{withLength(5, 5), 6, api.PduInvalid, api.ErrPduLength, 2},
		{withLength(6, 0), 6, api.PduInvalid, api.ErrPduLength, 2},
		{withLength(7, 1<<31+4), 6, api.PduInvalid, api.ErrPduLength, 2},
		{withLength(4, 0), 6, api.PduInvalid, api.ErrPduItem, 6},
		{withLength(1, 0), 6, api.PduInvalid, api.ErrPduLength, 2},
		{short, 73, api.PduInvalid, api.ErrPduLength, 2},
		{raw(4, 0, 0, 0, 0, 6, 0, 0, 0, 1, 1, 3), 12, api.PduInvalid, api.ErrPduLength, 6},
		{unit(2, make([]byte, 68)), 74, api.PduInvalid, api.ErrPduText, 10},
		{associate(1, app(), app()), 88, api.PduInvalid, api.ErrPduItem, 81},
	} {
		whole, stepwise := pdu.NewStream(), pdu.NewStream()
		whole.Take(append(bytes.Clone(c.b), 5, 0, 0, 0, 0, 4, 0, 0, 0, 0))
		wantNext(t, whole, c.verdict, api.Pdu{}, c.code, c.at, 0)
		wantDead(t, whole)
		for i := range c.need {
			wantNone(t, stepwise, i)
			stepwise.Take(c.b[i : i+1])
		}
		wantNext(t, stepwise, c.verdict, api.Pdu{}, c.code, c.at, 0)
		wantDead(t, stepwise)
	}
}

// TestStreamDiesBehind: PDUs ahead of a death are told, and the fault is told once.
func TestStreamDiesBehind(t *testing.T) {
	s := pdu.NewStream()
	s.Take(unit(5, make([]byte, 4)))
	s.Take(unit(9))
	wantNext(t, s, api.PduWhole, api.Pdu{Kind: api.PduReleaseRQ}, api.OK, 0, 6)
	wantNext(t, s, api.PduUnknown, api.Pdu{}, api.ErrPduKind, 0, 0)
	wantDead(t, s)
}

// TestNoStream: what NewStream did not give is dead.
func TestNoStream(t *testing.T) {
	wantDead(t, nil)
	wantDead(t, new(pdu.Stream))
	var s pdu.Stream
	s.Take(raw(1))
	wantDead(t, &s)
}

// TestStreamsApart: no two streams have anything in common.
func TestStreamsApart(t *testing.T) {
	one, other := pdu.NewStream(), pdu.NewStream()
	one.Take(raw(9, 9, 9, 9, 9, 9))
	other.Take(raw(5, 0, 0, 0, 0, 4))
	wantNext(t, one, api.PduUnknown, api.Pdu{}, api.ErrPduKind, 0, 0)
	wantNone(t, other, 6)
	other.Take(make([]byte, 4))
	wantNext(t, other, api.PduWhole, api.Pdu{Kind: api.PduReleaseRQ}, api.OK, 0, 0)
	wantDead(t, one)
	wantNone(t, pdu.NewStream(), 0)
}

// TestStreamMemory: a stream keeps no bytes of its giver's, and gives none of its own.
func TestStreamMemory(t *testing.T) {
	s := pdu.NewStream()
	room := slices.Concat(unit(4, raw(0, 0, 0, 4, 1, 0, 7, 8)), unit(4, raw(0, 0, 0, 4)), raw(1, 2, 3))
	given := room[:len(room)-3]
	before := bytes.Clone(room)
	s.Take(given)
	if !bytes.Equal(room, before) {
		t.Fatalf("DOC.md, Memory: Take has changed its bytes: %s", hex(room))
	}
	clear(room)
	p, v, err := s.Next()
	if v != api.PduWhole || err != nil || !same(p, data(api.Pdv{Context: 1, Data: raw(7, 8)})) {
		t.Fatalf("DOC.md, Memory: Take keeps the bytes: %s, %d, %v", shown(p), v, err)
	}
	for i := range p.Values[0].Data[:cap(p.Values[0].Data)] {
		p.Values[0].Data[:cap(p.Values[0].Data)][i] = 99
	}
	if s.Held() != 10 {
		t.Fatalf("P8.5: Held: %d", s.Held())
	}
	wantNext(t, s, api.PduInvalid, api.Pdu{}, api.ErrPduLength, 6, 0)
}

// outcome is one answer of Next.
type outcome struct {
	p       api.Pdu
	verdict int
	code    api.Errno
	at      int
}

// modelStream tells what a stream answers that is given all these bytes, and how many it holds in the end.
func modelStream(b []byte) (list []outcome, held int) {
	for len(b) >= 6 {
		if b[0] < 1 || b[0] > 7 {
			return append(list, outcome{verdict: api.PduUnknown, code: api.ErrPduKind}, outcome{verdict: api.PduDead}), 0
		}
		length, most := binary.BigEndian.Uint32(b[2:]), [8]uint32{0, 32768, 32768, 4, 16384, 4, 4, 4}[b[0]]
		if length > most || most == 4 && length < 4 {
			return append(list, outcome{verdict: api.PduInvalid, code: api.ErrPduLength, at: 2}, outcome{verdict: api.PduDead}), 0
		}
		size := 6 + int(length)
		if len(b) < size {
			break
		}
		p, code, at := modelDecode(b[:size])
		if code != api.OK {
			return append(list, outcome{api.Pdu{}, api.PduInvalid, code, at}, outcome{verdict: api.PduDead}), 0
		}
		list = append(list, outcome{p, api.PduWhole, api.OK, 0})
		b = b[size:]
	}
	return append(list, outcome{verdict: api.PduNone}), len(b)
}

// next asks a stream until it has nothing more to tell.
func next(s *pdu.Stream) (list []outcome) {
	for {
		p, v, err := s.Next()
		o := outcome{p: p, verdict: v}
		var f *api.Fault
		if errors.As(err, &f) {
			o.code, o.at = f.Err.(api.Errno), f.At
		}
		list = append(list, o)
		if v != api.PduWhole && v != api.PduInvalid && v != api.PduUnknown {
			return list
		}
	}
}

func equal(x, y []outcome) bool {
	return slices.EqualFunc(x, y, func(x, y outcome) bool {
		return x.verdict == y.verdict && x.code == y.code && x.at == y.at && same(x.p, y.p)
	})
}

// someTalk is the bytes of some PDUs, perhaps with something wrong among them.
func someTalk(r *rand.Rand) (b []byte) {
	for range r.Intn(6) {
		u := someUnit(r)
		if r.Intn(2) == 0 {
			u, _, _ = modelEncode(somePdu(r))
		}
		if _, code, _ := modelDecode(u); code != api.OK && r.Intn(4) > 0 {
			continue
		}
		if r.Intn(12) == 0 {
			u = spoilBytes(r, u)
		}
		b = append(b, u...)
	}
	return b[:len(b)-r.Intn(1+min(len(b), 20))]
}

// TestStreamCuts: however bytes are cut, and whenever a stream is asked, it tells the PDUs and the death of them all.
func TestStreamCuts(t *testing.T) {
	t.Parallel()
	r := rand.New(rand.NewSource(83))
	dead := 0
	for range 4000 {
		b := someTalk(r)
		want, held := modelStream(b)
		s, asked := pdu.NewStream(), []outcome{}
		for from := 0; from < len(b); {
			to := min(len(b), from+1+r.Intn(one(r, 1, 10, 2000)))
			s.Take(b[from:to])
			from = to
			if r.Intn(3) == 0 {
				asked = append(asked, next(s)...)
				if _, left := modelStream(b[:from]); s.Held() != left {
					t.Fatalf("P8.5: Held behind %s: %d, want %d", hex(b[:from]), s.Held(), left)
				}
				asked = asked[:len(asked)-1]
			}
		}
		asked = append(asked, next(s)...)
		if !equal(asked, want) || s.Held() != held {
			t.Fatalf("P8.5: %s: %v and %d held, want %v and %d", hex(b), asked, s.Held(), want, held)
		}
		if want[len(want)-1].verdict == api.PduDead {
			dead++
		}
	}
	if dead < 400 || dead > 3600 {
		t.Errorf("the tests' own bytes: %d deaths", dead)
	}
}

// TestStreamEachCut: each cut in two, and byte by byte.
func TestStreamEachCut(t *testing.T) {
	talk := slices.Concat(associate(1, app(), asked(1), item(0x50)), unit(4, raw(0, 0, 0, 3, 1, 0, 5)), unit(6, make([]byte, 4)), inAnswered(1), unit(4, raw(0, 0, 0, 2, 2, 0)), unit(5, make([]byte, 4)))
	want, _ := modelStream(talk)
	if len(want) != 6 {
		t.Fatalf("the tests' own bytes: %v", want)
	}
	single := pdu.NewStream()
	var told []outcome
	for i := range talk {
		s := pdu.NewStream()
		s.Take(talk[:i])
		first := next(s)
		s.Take(talk[i:])
		if all := append(first[:len(first)-1], next(s)...); !equal(all, want) {
			t.Errorf("P8.5: cut at %d: %v, want %v", i, all, want)
		}
		single.Take(talk[i : i+1])
		more := next(single)
		told = append(told, more[:len(more)-1]...)
	}
	if !equal(append(told, outcome{verdict: api.PduDead}), want) {
		t.Errorf("P8.5: byte by byte: %v, want %v", told, want)
	}
}

// TestStreamHolds: what is held where nothing is whole is less than the greatest PDU, and it may be all but one of its bytes.
func TestStreamHolds(t *testing.T) {
	for _, p := range []api.Pdu{longest(t, 32768), data(api.Pdv{Context: 1, Data: make([]byte, 16378)})} {
		b, err := pdu.Encode(p)
		if err != nil {
			t.Fatal(err)
		}
		s := pdu.NewStream()
		s.Take(b[:len(b)-1])
		wantNone(t, s, len(b)-1)
		if p.Kind == api.PduRQ && s.Held() != 5+api.MaxAssociate {
			t.Errorf("P8.5: Held: %d", s.Held())
		}
		s.Take(b[len(b)-1:])
		wantNext(t, s, api.PduWhole, p, api.OK, 0, 0)
	}
}

// TestStreamLong: many PDUs at one time, and many bytes one by one, go by in a time that grows no faster than they do.
func TestStreamLong(t *testing.T) {
	const count = 400000
	s := pdu.NewStream()
	s.Take(bytes.Repeat(raw(7, 0, 0, 0, 0, 4, 0, 0, 1, 2), count))
	for i := range count {
		if p, v, err := s.Next(); v != api.PduWhole || err != nil || p.Source != 1 || p.Reason != 2 || s.Held() != 10*(count-1-i) {
			t.Fatalf("P8.5: PDU %d of many: %s, %d, %v, %d held", i, shown(p), v, err, s.Held())
		}
	}
	wantNone(t, s, 0)
	for i := range 10 * count {
		s.Take(raw(7, 0, 0, 0, 0, 4, 0, 0, 1, 2)[i%10 : i%10+1])
	}
	if s.Held() != 10*count {
		t.Fatalf("P8.5: Held: %d", s.Held())
	}
	for range count {
		if _, v, _ := s.Next(); v != api.PduWhole {
			t.Fatalf("P8.5: Next: %d", v)
		}
	}
	wantNone(t, s, 0)
}

// heap tells how many bytes the program holds.
func heap() int {
	runtime.GC()
	var m runtime.MemStats
	runtime.ReadMemStats(&m)
	return int(m.HeapAlloc)
}

// TestStreamLetsGo: bytes that were told take no memory any more, whether some are still held or not.
func TestStreamLetsGo(t *testing.T) {
	const count = 2000
	for _, rest := range []int{0, 5} {
		s, before := pdu.NewStream(), heap()
		s.Take(append(bytes.Repeat(unit(4, raw(0, 0, 0x3F, 0xFC, 1, 0), make([]byte, 16378)), count), make([]byte, rest)...))
		for range count {
			if _, v, err := s.Next(); v != api.PduWhole {
				t.Fatalf("P8.5: Next: %d, %v", v, err)
			}
		}
		wantNone(t, s, rest)
		if grown := heap() - before; grown > 16384*count/4 {
			t.Errorf("P8.5: a stream that holds %d bytes takes %d", s.Held(), grown)
		}
	}
}
