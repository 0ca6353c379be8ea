package upper_test

import (
	"fmt"
	"math/rand"
	"testing"

	"modality/api"
	"modality/upper"
)

// What is on the way to a side beside PDUs.
const (
	opened = -1 - iota // the connection has come
	connected
	closed
)

// parcel is something on the way: a PDU by its kind, or one of the above; data has a number.
type parcel struct {
	kind, number int
	source       uint8
}

// talk is two providers, the first of which asks, what is on the way to each, and what has happened.
type talk struct {
	side [2]upper.Provider
	way  [2][]parcel
	past story
}

// story is what has happened to two that talk, by side.
type story struct {
	begun    bool
	sent     [2]int  // data that the user has sent
	heard    [2]int  // data that the user was told
	owes     [2]bool // the user was told TellRelease, and has not agreed
	released [2]bool // the user was told TellReleased
	asked    bool    // an EvRelease has found its provider in Sta6
	aborts   bool    // a user has aborted
	cut      bool    // an EvAbort has found its provider in Sta3 or Sta5 to Sta12
	expired  bool    // a timer has
}

func newTalk(t *testing.T, artim int) talk {
	return talk{side: [2]upper.Provider{*begin(t, artim), *begin(t, artim)}}
}

// key is what a talk is known again by.
func (k *talk) key() string {
	return fmt.Sprint(k.side[0].State(), k.side[1].State(), k.way, k.past)
}

// copied is a talk that can go on by itself.
func (k *talk) copied() talk {
	next := *k
	for i, w := range k.way {
		next.way[i] = append([]parcel(nil), w...)
	}
	return next
}

// does lets an event happen to a side, and carries out what its provider does.
func (k *talk) does(t *testing.T, side int, e api.UpperEvent) {
	t.Helper()
	before := k.side[side].State()
	acts := k.side[side].Do(e)
	k.note(side, before.Sta, e.Kind, len(acts) > 0)
	other := 1 - side
	for _, a := range acts {
		switch a.Kind {
		case api.UpConnect:
			k.way[other] = append(k.way[other], parcel{kind: opened})
			k.way[side] = append(k.way[side], parcel{kind: connected})
		case api.UpShut:
			k.send(side, parcel{kind: closed})
		case api.UpSend:
			k.sends(t, side, a.Pdu)
		case api.UpTell:
			k.told(t, side, a)
		}
	}
	if before.Sta != 1 && k.side[side].State().Sta == 1 {
		k.way[side] = nil
	}
}

// send puts something on its way, unless nobody is there any more to hear it. (A side that was not opened yet is there.)
func (k *talk) send(from int, p parcel) {
	to := 1 - from
	if k.side[to].State().Sta != 1 || len(k.way[to]) > 0 {
		k.way[to] = append(k.way[to], p)
	}
}

func (k *talk) sends(t *testing.T, side int, p api.Pdu) {
	t.Helper()
	out := parcel{kind: p.Kind, source: p.Source}
	if p.Kind == api.PduData {
		k.past.sent[side]++
		out.number = k.past.sent[side]
		if len(p.Values) != 1 || int(p.Values[0].Context) != out.number {
			t.Fatalf("P9.11: the user's data number %d goes out as %s", out.number, shown(p))
		}
	}
	if p.Kind == api.PduAbort && p.Source == 2 {
		t.Fatalf("P9.11 (b): side %d sends %s: %s", side, shown(p), k.key())
	}
	k.send(side, out)
}

func (k *talk) told(t *testing.T, side int, a api.UpperAct) {
	t.Helper()
	switch a.Word {
	case api.TellRelease:
		k.past.owes[side] = true
	case api.TellReleased:
		k.past.released[side] = true
	case api.TellData:
		k.past.heard[side]++
		if n := k.past.heard[side]; len(a.Pdu.Values) != 1 || int(a.Pdu.Values[0].Context) != n || n > k.past.sent[1-side] {
			t.Fatalf("P9.11 (a): side %d is told %s as its data number %d", side, shown(a), n)
		}
	}
}

// note writes down what an event means for the promises.
func (k *talk) note(side, sta, event int, taken bool) {
	switch event {
	case api.EvRelease:
		k.past.asked = k.past.asked || sta == 6
	case api.EvReleased:
		if taken {
			k.past.owes[side] = false
		}
	case api.EvAbort:
		k.past.aborts = true
		k.past.cut = k.past.cut || sta == 3 || sta >= 5 && sta <= 12
	case api.EvTick:
		k.past.expired = k.past.expired || taken
	}
}

// delivers brings a side what is on the way to it; a request may be one that it can't take.
func (k *talk) delivers(t *testing.T, side int, bad bool) {
	t.Helper()
	p := k.way[side][0]
	k.way[side] = k.way[side][1:]
	e := api.UpperEvent{Bad: bad, Answer: api.Pdu{Kind: api.PduRJ}}
	switch p.kind {
	case opened:
		e.Kind = api.EvOpened
	case connected:
		e.Kind = api.EvConnected
	case closed:
		e.Kind = api.EvClosed
	default:
		e.Pdu = api.Pdu{Kind: p.kind, Source: p.source}
		if p.kind == api.PduData {
			e.Pdu.Values = []api.Pdv{{Context: uint8(p.number)}}
		}
		e.Kind = upper.EventOf(e.Pdu)
	}
	k.does(t, side, e)
}

// check fails if what must be as soon as everything on the way has come is not so.
func (k *talk) check(t *testing.T) {
	t.Helper()
	if len(k.way[0])+len(k.way[1]) > 0 {
		return
	}
	s := &k.past
	idle := k.side[0].State().Sta == 1 && k.side[1].State().Sta == 1
	if s.cut && !idle {
		t.Fatalf("P9.11 (c): not both are idle: %s", k.key())
	}
	if s.aborts || s.expired || !s.asked || s.owes[0] || s.owes[1] {
		return
	}
	if !idle || s.heard[0] != s.sent[1] || s.heard[1] != s.sent[0] || !s.released[0] && !s.released[1] {
		t.Fatalf("P9.11 (d): %s", k.key())
	}
}

// move is something that can happen next to a talk.
type move struct {
	gentle bool // it does not lead to the end by itself
	do     func(t *testing.T, k *talk)
}

// moves is all that can happen next to a talk in which each user sends at most so many data.
func (k *talk) moves(most int) []move {
	if !k.past.begun {
		return []move{{true, func(t *testing.T, k *talk) {
			k.past.begun = true
			k.does(t, 0, good(api.EvAssociate))
		}}}
	}
	var all []move
	for side := range 2 {
		if w := k.way[side]; len(w) > 0 {
			all = append(all, move{true, func(t *testing.T, k *talk) { k.delivers(t, side, false) }})
			if w[0].kind == api.PduRQ {
				all = append(all, move{false, func(t *testing.T, k *talk) { k.delivers(t, side, true) }})
			}
		}
		for _, kind := range []int{api.EvAccept, api.EvReject, api.EvRelease, api.EvReleased, api.EvAbort, api.EvTick} {
			all = append(all, move{kind == api.EvAccept, func(t *testing.T, k *talk) { k.does(t, side, good(kind)) }})
		}
		if k.past.sent[side] < most {
			all = append(all, move{true, func(t *testing.T, k *talk) {
				e := good(api.EvData)
				e.Pdu.Values = []api.Pdv{{Context: uint8(k.past.sent[side] + 1)}}
				k.does(t, side, e)
			}})
		}
	}
	return all
}

// TestTalks: all mixes of deliveries, users and ticks in which each user sends a little.
func TestTalks(t *testing.T) {
	t.Parallel()
	first := newTalk(t, 2)
	seen := map[string]bool{first.key(): true}
	meets := map[[2]int]bool{}
	for queue := []talk{first}; len(queue) > 0; queue = queue[1:] {
		k := &queue[0]
		k.check(t)
		meets[[2]int{k.side[0].State().Sta, k.side[1].State().Sta}] = true
		for _, m := range k.moves(3) {
			next := k.copied()
			m.do(t, &next)
			if key := next.key(); !seen[key] {
				seen[key] = true
				queue = append(queue, next)
			}
		}
	}
	for _, pair := range [][2]int{{4, 1}, {4, 2}, {5, 1}, {5, 2}, {5, 3}, {6, 6}, {7, 7}, {9, 7}, {9, 10}, {11, 10}, {11, 12}, {11, 13}, {7, 8}, {8, 7}, {13, 13}} {
		if !meets[pair] {
			t.Errorf("P9.11: no talk comes to Sta%d and Sta%d", pair[0], pair[1])
		}
	}
}

// TestLongTalks: long mixes with much data, taken by chance; in a calm one most of what would end it is let be.
func TestLongTalks(t *testing.T) {
	t.Parallel()
	heard, agreed := 0, 0
	for seed := range int64(2000) {
		r := rand.New(rand.NewSource(seed))
		k := newTalk(t, 1+r.Intn(40))
		calm := 1 + r.Intn(100)
		for range 300 {
			all := k.moves(200)
			m := all[r.Intn(len(all))]
			for !m.gentle && r.Intn(calm) > 0 {
				m = all[r.Intn(len(all))]
			}
			m.do(t, &k)
			k.check(t)
		}
		heard = max(heard, k.past.heard[0]+k.past.heard[1])
		if k.past.released[0] || k.past.released[1] {
			agreed++
		}
	}
	if heard < 60 || agreed < 100 {
		t.Errorf("P9.11: no talk was long, or few came to a good end: %d data heard, %d ends", heard, agreed)
	}
}
