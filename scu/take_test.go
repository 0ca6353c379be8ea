package scu_test

import (
	"slices"
	"testing"

	"modality/api"
)

// TestOpened: the connection that was asked for is there (P17.3).
func TestOpened(t *testing.T) {
	for _, sta := range places() {
		s := reach(t, sta)
		if sta == 4 {
			gives(t, "P17.3", s.Opened(), sendsPdu(requesting(wideConfig())))
			isIn(t, "P17.3", s, api.ScuState{Sta: 5})
			continue
		}
		gives(t, "P17.3", s.Opened())
		isIn(t, "P17.3", s, resting(sta))
	}
}

// TestClosed: the connection is gone, and with it all that was agreed and waits (P17.5).
func TestClosed(t *testing.T) {
	for _, sta := range places() {
		s := reach(t, sta)
		switch sta {
		case 1, 13:
			gives(t, "P17.5", s.Closed())
		default:
			gives(t, "P17.5", s.Closed(), says(api.TellBroken))
		}
		isIn(t, "P17.5", s, api.ScuState{Sta: 1})
	}
}

// TestTakeNothing: without a connection bytes are nothing, and nothing is held of them (P17.4).
func TestTakeNothing(t *testing.T) {
	for _, b := range [][]byte{nil, {1}, unknownPdu(), invalidPdu(), laid(rejecting()), laid(accepting(agreed(), 64)), {3, 0, 0, 0, 0}} {
		s := reach(t, 1)
		gives(t, "P17.4: in Sta1", s.Take(b))
		isIn(t, "P17.4: in Sta1", s, resting(1))
		do(t, s, kind(api.DoConnect))
		gives(t, "P17.4: in Sta4", s.Take(b))
		isIn(t, "P17.4: in Sta4", s, resting(4))
		s.Opened()
		gives(t, "P17.4: of what came in Sta1 and Sta4 nothing is held", s.Take(laid(rejecting())), saysPdu(api.TellRejected, rejecting()), shuts())
	}
}

// TestTakeEmpty: no bytes are nothing (P17.4).
func TestTakeEmpty(t *testing.T) {
	for _, sta := range places() {
		s := reach(t, sta)
		gives(t, "P17.4: no bytes", append(s.Take(nil), s.Take([]byte{})...))
		isIn(t, "P17.4: no bytes", s, resting(sta))
	}
}

// comings are what may come, each with what a scanner does in each of Sta5, 6, 7, 11, 13, and in which state it is then.
type coming struct {
	what  string
	bytes []byte
	outs  [5][]api.ScuOut
	then  [5]int
}

func comings() []coming {
	broken := func(reason uint8) []api.ScuOut {
		return []api.ScuOut{sendsPdu(aborting(2, reason)), says(api.TellBroken)}
	}
	outs := func(l ...api.ScuOut) []api.ScuOut { return l }
	ac := accepting(agreed(), 64)
	echoed := answer(1, 0x30, 90, 0)
	told := outs(answers(api.ScuReply{Id: 90, Field: 0x30}))
	released := outs(says(api.TellReleased), shuts())
	again := func(reason uint8) []api.ScuOut { return outs(sendsPdu(aborting(2, reason))) }
	ended := func(word int, p api.Pdu) []api.ScuOut { return outs(saysPdu(word, p), shuts()) }
	leaving := outs(says(api.TellRelease), sendsPdu(agreeEnd()))
	all := func(l []api.ScuOut, in13 []api.ScuOut) [5][]api.ScuOut { return [5][]api.ScuOut{l, l, l, l, in13} }
	return []coming{
		{"an A-ASSOCIATE-RQ", laid(requesting(wideConfig())), all(broken(2), again(2)), [5]int{13, 13, 13, 13, 13}},
		{"an A-ASSOCIATE-AC", laid(ac), [5][]api.ScuOut{outs(saysPdu(api.TellAccepted, ac)), broken(2), broken(2), broken(2), nil}, [5]int{6, 13, 13, 13, 13}},
		{"an A-ASSOCIATE-RJ", laid(rejecting()), [5][]api.ScuOut{ended(api.TellRejected, rejecting()), broken(2), broken(2), broken(2), nil}, [5]int{1, 13, 13, 13, 13}},
		{"a P-DATA-TF", said(echoed), [5][]api.ScuOut{broken(2), told, told, broken(2), nil}, [5]int{13, 6, 7, 13, 13}},
		{"an A-RELEASE-RQ", laid(askEnd()), [5][]api.ScuOut{broken(2), leaving, leaving, broken(2), nil}, [5]int{13, 13, 11, 13, 13}},
		{"an A-RELEASE-RP", laid(agreeEnd()), [5][]api.ScuOut{broken(2), broken(2), released, released, nil}, [5]int{13, 13, 1, 1, 13}},
		{"a user's A-ABORT", laid(aborting(0, 7)), all(ended(api.TellAbort, aborting(0, 7)), outs(shuts())), [5]int{1, 1, 1, 1, 1}},
		{"a provider's A-ABORT", laid(aborting(2, 6)), all(ended(api.TellBroken, aborting(2, 6)), outs(shuts())), [5]int{1, 1, 1, 1, 1}},
		{"an A-ABORT of another", laid(aborting(1, 0)), all(ended(api.TellBroken, aborting(1, 0)), outs(shuts())), [5]int{1, 1, 1, 1, 1}},
		{"a PDU of no kind", unknownPdu(), all(broken(1), again(1)), [5]int{13, 13, 13, 13, 13}},
		{"a PDU that may not be", invalidPdu(), all(broken(6), again(6)), [5]int{13, 13, 13, 13, 13}},
		{"a head that may not be", []byte{4, 0, 0, 0, 0x40, 1}, all(broken(6), again(6)), [5]int{13, 13, 13, 13, 13}},
	}
}

// behind is the state of a scanner that was in one state and is in another.
func behind(was, is int, c coming) api.ScuState {
	st := resting(was)
	st.Sta = is
	switch {
	case is == 1:
		return api.ScuState{Sta: 1}
	case was == 5 && is == 6:
		st.Contexts, st.Most = agreed(), 64
	case c.what == "a P-DATA-TF" && (is == 6 || is == 7):
		st.Waiting = []uint16{91}
	}
	return st
}

// TestComings: every PDU in every state, whole, byte by byte, and what is no PDU (P17.4, and how acts become outs).
func TestComings(t *testing.T) {
	for _, c := range comings() {
		for i, sta := range []int{5, 6, 7, 11, 13} {
			s := reach(t, sta)
			gives(t, c.what, s.Take(c.bytes), c.outs[i]...)
			isIn(t, c.what, s, behind(sta, c.then[i], c))
			s = reach(t, sta)
			for _, b := range c.bytes[:len(c.bytes)-1] {
				gives(t, c.what, s.Take([]byte{b}))
				isIn(t, c.what, s, resting(sta))
			}
			gives(t, c.what, s.Take(c.bytes[len(c.bytes)-1:]), c.outs[i]...)
			isIn(t, c.what, s, behind(sta, c.then[i], c))
		}
	}
}

// TestTimers: which of a scanner's ends begin its timer, and that a second one does not begin it anew.
func TestTimers(t *testing.T) {
	for _, c := range comings() {
		for i, sta := range []int{5, 6, 7, 11} {
			s := reach(t, sta)
			s.Take(c.bytes)
			if c.then[i] != 13 {
				continue
			}
			gives(t, c.what, do(t, s, ticks(4)))
			s.Take(laid(requesting(wideConfig())))
			gives(t, c.what, do(t, s, ticks(1)), shuts())
			isIn(t, c.what, s, api.ScuState{Sta: 1})
		}
	}
}

// TestDead: behind what is no PDU nothing is read any more, and the next connection begins anew (P17.4).
func TestDead(t *testing.T) {
	for _, b := range [][]byte{unknownPdu(), invalidPdu()} {
		for _, sta := range []int{5, 6, 7, 11, 13} {
			s := reach(t, sta)
			s.Take(b)
			was := s.State()
			gives(t, "P17.4: a dead stream", slices.Concat(s.Take(unknownPdu()), s.Take(laid(requesting(wideConfig()))), s.Take(laid(aborting(0, 0)))))
			isIn(t, "P17.4: a dead stream", s, was)
			gives(t, "P17.4: a dead stream", do(t, s, ticks(5)), shuts())
			do(t, s, kind(api.DoConnect))
			s.Opened()
			ac := accepting(agreed(), 64)
			gives(t, "P17.4: a new connection", s.Take(laid(ac)), saysPdu(api.TellAccepted, ac))
		}
	}
}

// TestRest: bytes behind a connection's end are let go, those that were half read with it (P17.4).
func TestRest(t *testing.T) {
	ac := accepting(agreed(), 64)
	for _, rest := range [][]byte{{1}, {4, 0, 0}, laid(rejecting()), laid(ac), unknownPdu(), said(answer(1, 0x30, 90, 0))} {
		for _, sta := range []int{5, 6, 7, 11, 13} {
			for _, how := range []string{"abort", "closed", "ticks"} {
				s := reach(t, sta)
				switch how {
				case "abort":
					s.Take(slices.Concat(laid(aborting(0, 0)), rest))
				case "closed":
					s.Take(rest[:1])
					s.Closed()
				case "ticks":
					s.Take(rest[:1])
					s.Do(kind(api.DoAbort))
					do(t, s, ticks(5))
				}
				isIn(t, "P17.4: the end", s, api.ScuState{Sta: 1})
				do(t, s, kind(api.DoConnect))
				s.Opened()
				gives(t, "P17.4: nothing is held", s.Take(laid(ac)), saysPdu(api.TellAccepted, ac))
				isIn(t, "P17.4: nothing is held", s, api.ScuState{Sta: 6, Contexts: agreed(), Most: 64})
			}
		}
	}
}

// TestHalfMessage: a message that is half read when a connection ends is let go (P17.4).
func TestHalfMessage(t *testing.T) {
	m := answer(1, 0x30, 7, 0)
	half := fragments(m, 30)
	s := associated(t, 64)
	do(t, s, echo(7))
	gives(t, "P17.4: half a message", s.Take(dataPdu(half[0])))
	s.Closed()
	do(t, s, kind(api.DoConnect))
	s.Opened()
	s.Take(laid(accepting(agreed(), 64)))
	do(t, s, echo(7))
	gives(t, "P17.4: a whole one", s.Take(said(m)), answers(api.ScuReply{Id: 7, Field: 0x30}))
}

// TestSeveral: several PDUs in one chunk are worked on in order (P17.4).
func TestSeveral(t *testing.T) {
	ac := accepting(agreed(), 64)
	s := reach(t, 5)
	gives(t, "P17.4: in order", s.Take(slices.Concat(laid(ac, askEnd(), requesting(wideConfig()), rejecting(), aborting(0, 0), ac))),
		saysPdu(api.TellAccepted, ac), says(api.TellRelease), sendsPdu(agreeEnd()), sendsPdu(aborting(2, 2)), shuts())
	isIn(t, "P17.4: in order", s, api.ScuState{Sta: 1})
	s = reach(t, 7)
	gives(t, "P17.4: in order", s.Take(slices.Concat(said(answer(3, 0x20, 91, 0xFF00), answer(1, 0x30, 90, 0), answer(3, 0x20, 91, 0)), laid(askEnd(), agreeEnd()))),
		answers(api.ScuReply{Id: 91, Field: 0x20, Status: 0xFF00}), answers(api.ScuReply{Id: 90, Field: 0x30}), answers(api.ScuReply{Id: 91, Field: 0x20}),
		says(api.TellRelease), sendsPdu(agreeEnd()), says(api.TellReleased), shuts())
	isIn(t, "P17.4: in order", s, api.ScuState{Sta: 1})
}

// TestAgreed: which contexts are agreed (P17.4).
func TestAgreed(t *testing.T) {
	im, ex := []string{"1.2.840.10008.1.2"}, []string{"1.2.840.10008.1.2.1"}
	other := []string{"1.2.840.10008.1.2.2"}
	both := []api.Syntax{api.Implicit, api.Explicit}
	for i, x := range []struct {
		classes  []string
		syntaxes []api.Syntax
		list     []api.PresContext
		want     []api.Context
	}{
		{[]string{"1.1"}, both, []api.PresContext{{Id: 1, Syntaxes: im}}, []api.Context{{Id: 1, Class: "1.1", Syntax: api.Implicit}}},
		{[]string{"1.1"}, both, []api.PresContext{{Id: 1, Syntaxes: ex}}, []api.Context{{Id: 1, Class: "1.1", Syntax: api.Explicit}}},
		{[]string{"1.1"}, both, []api.PresContext{{Id: 1, Syntaxes: other}}, nil},
		{[]string{"1.1"}, both[:1], []api.PresContext{{Id: 1, Syntaxes: ex}}, nil},
		{[]string{"1.1"}, both[1:], []api.PresContext{{Id: 1, Syntaxes: im}}, nil},
		{[]string{"1.1"}, both[1:], []api.PresContext{{Id: 1, Syntaxes: ex}}, []api.Context{{Id: 1, Class: "1.1", Syntax: api.Explicit}}},
		{[]string{"1.1"}, both, []api.PresContext{{Id: 1, Result: 1}}, nil},
		{[]string{"1.1"}, both, []api.PresContext{{Id: 1, Result: 4}}, nil},
		{[]string{"1.1"}, both, []api.PresContext{{Id: 3, Syntaxes: im}}, nil},
		{[]string{"1.1"}, both, []api.PresContext{{Id: 255, Syntaxes: im}}, nil},
		{[]string{"1.1", "1.1"}, both, []api.PresContext{{Id: 3, Syntaxes: im}, {Id: 1, Syntaxes: ex}}, []api.Context{{Id: 3, Class: "1.1", Syntax: api.Implicit}, {Id: 1, Class: "1.1", Syntax: api.Explicit}}},
		{[]string{"1.1", "1.2", "1.3"}, both, []api.PresContext{{Id: 5, Syntaxes: im}, {Id: 3, Result: 2}, {Id: 7, Syntaxes: im}, {Id: 1, Syntaxes: ex}}, []api.Context{{Id: 5, Class: "1.3", Syntax: api.Implicit}, {Id: 1, Class: "1.1", Syntax: api.Explicit}}},
		{repeated("1.9", 128), both, []api.PresContext{{Id: 255, Syntaxes: im}}, []api.Context{{Id: 255, Class: "1.9", Syntax: api.Implicit}}},
	} {
		c := exampleConfig()
		c.Classes, c.Syntaxes = x.classes, x.syntaxes
		s := fresh(t, c)
		do(t, s, kind(api.DoConnect))
		s.Opened()
		ac := acceptingAs(x.list, api.UserInfo{HasMax: true, MaxLength: 100})
		gives(t, "P17.4: accepted", s.Take(laid(ac)), saysPdu(api.TellAccepted, ac))
		if got := s.State(); !same(got, api.ScuState{Sta: 6, Contexts: x.want, Most: 100}) {
			t.Errorf("P17.4: case %d: %s", i, shown(got))
		}
	}
}

// TestLength: the length that the server takes (P17.4, P17.6).
func TestLength(t *testing.T) {
	for _, x := range []struct {
		told uint32
		want int
	}{{0, 16384}, {1, 64}, {63, 64}, {64, 64}, {65, 65}, {16383, 16383}, {16384, 16384}, {16385, 16384}, {1<<31 - 1, 16384}, {1 << 31, 16384}, {1<<32 - 1, 16384}} {
		s := reach(t, 5)
		s.Take(laid(accepting(agreed(), x.told)))
		want := api.ScuState{Sta: 6, Contexts: agreed(), Most: x.want}
		isIn(t, "P17.4: the length", s, want)
		for _, o := range do(t, s, find(1, name("XXXXXXXXXXXXXXXXXXXXXXXXXXXXXXXXXXXXXXXXXXXXXXXXXXXXXXX"))) {
			if len(o.Data)-6 > x.want {
				t.Fatalf("P17.2: a PDU of %d bytes", len(o.Data))
			}
		}
		want.Waiting = []uint16{1}
		do(t, s, kind(api.DoAbort))
		want.Sta = 13
		isIn(t, "P17.6: the length in Sta13", s, want)
		s.Closed()
		isIn(t, "P17.6: the length in Sta1", s, api.ScuState{Sta: 1})
	}
	s := reach(t, 5)
	ac := accepting(agreed(), 0)
	ac.Assoc.User = api.UserInfo{}
	s.Take(laid(ac))
	isIn(t, "P17.4: no length is told", s, api.ScuState{Sta: 6, Contexts: agreed(), Most: 16384})
}

// TestLateAccept: an A-ASSOCIATE-AC elsewhere than in Sta5 agrees on nothing (P17.4).
func TestLateAccept(t *testing.T) {
	s := reach(t, 5)
	do(t, s, kind(api.DoAbort))
	gives(t, "P17.4: an AC in Sta13", s.Take(laid(accepting(agreed(), 64))))
	isIn(t, "P17.4: an AC in Sta13", s, api.ScuState{Sta: 13})
	s = associated(t, 64)
	s.Take(laid(accepting(agreed()[:1], 100)))
	isIn(t, "P17.4: a second AC", s, api.ScuState{Sta: 13, Contexts: agreed(), Most: 64})
}

// TestNoContexts: an association without contexts takes no data (P17.4).
func TestNoContexts(t *testing.T) {
	s := reach(t, 5)
	s.Take(laid(acceptingAs([]api.PresContext{{Id: 1, Result: 3}}, api.UserInfo{})))
	isIn(t, "P17.4: no contexts", s, api.ScuState{Sta: 6, Most: 16384})
	for _, d := range requests() {
		want := api.ErrScuContext
		if d.Kind == api.DoCancel {
			want = api.ErrScuId
		}
		if _, err := s.Do(d); !isFault(err, 0, want) {
			t.Errorf("P17.2: no contexts: %v", err)
		}
	}
	gives(t, "P17.4: no contexts", s.Take(said(answer(1, 0x30, 7, 0))), sendsPdu(aborting(0, 0)))
}
