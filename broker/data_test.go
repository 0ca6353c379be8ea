package broker_test

import (
	"slices"
	"testing"

	"modality/api"
	"modality/broker"
)

// TestDataIdle: bytes on an idle line are nothing, and are not kept.
func TestDataIdle(t *testing.T) {
	b := begun(t, config(), fresh())
	whole := laid(asking(64))
	gives(t, "P16.4: an idle line", b, data(0, whole[:50]))
	gives(t, "P16.4: an idle line", b, data(0, unknownPdu()))
	isIdle(t, "P16.4: an idle line", b, 0)
	do(t, b, link(0))
	gives(t, "P16.4: what came ahead of the link is gone", b, data(0, whole), sends(0, accepting())...)
}

// TestAssociate: what is agreed is what layer 9 says.
func TestAssociate(t *testing.T) {
	for most, want := range map[uint32]int{0: 16384, 64: 64, 65: 65, 16383: 16383, 16384: 16384, 16385: 16384, 1<<32 - 1: 16384} {
		b := begun(t, config(), fresh())
		associate(t, b, 0, most)
		if got := b.Line(0); !same(got, api.LineLook{Sta: 6, Contexts: agreed(), Most: want}) {
			t.Errorf("P16.9: behind a maximum length of %d: %s", most, shown(got))
		}
	}
	b := begun(t, config(), fresh())
	do(t, b, link(0))
	rq := asking(0)
	rq.Assoc.User.HasMax, rq.Assoc.User.MaxLength = false, 0
	rq.Assoc.Contexts = []api.PresContext{{Id: 255, Class: "1.2.9", Syntaxes: []string{api.UIDImplicit}}, {Id: 3, Class: api.UIDWorklist, Syntaxes: []string{"1.2", api.UIDExplicit, api.UIDImplicit}}, {Id: 1, Class: api.UIDVerify, Syntaxes: []string{"1.2"}}}
	outs := do(t, b, data(0, laid(rq)))
	ac := api.Pdu{Kind: api.PduAC, Assoc: rq.Assoc}
	ac.Assoc.User = api.UserInfo{HasMax: true, MaxLength: 16384, Class: api.UIDOurs, Name: api.NameOurs}
	ac.Assoc.Contexts = []api.PresContext{{Id: 255, Result: 3}, {Id: 3, Syntaxes: []string{api.UIDExplicit}}, {Id: 1, Result: 4}}
	if !same(outs, sends(0, laid(ac))) {
		t.Errorf("P16.4: %s", shown(outs))
	}
	if got := b.Line(0); !same(got, api.LineLook{Sta: 6, Contexts: []api.Context{{Id: 3, Class: api.UIDWorklist, Syntax: api.Explicit}}, Most: 16384}) {
		t.Errorf("P16.9: %s", shown(got))
	}
	gives(t, "P16.4: a context that was refused", b, data(0, dataPdu(api.Pdv{Context: 1, Command: true})), sends(0, aborting(0, 0))...)
}

// TestAssociateNothing: an association without any agreed context is one.
func TestAssociateNothing(t *testing.T) {
	b := begun(t, config(), fresh())
	do(t, b, link(0))
	rq := asking(64)
	rq.Assoc.Contexts = []api.PresContext{{Id: 1, Class: "1.2.9", Syntaxes: []string{api.UIDImplicit}}}
	do(t, b, data(0, laid(rq)))
	if got := b.Line(0); !same(got, api.LineLook{Sta: 6, Most: 64}) {
		t.Errorf("P16.9: %s", shown(got))
	}
	gives(t, "P16.4: a release", b, data(0, releaseRQ()), sends(0, releaseRP())...)
}

// TestRejected: each reason, and the first of two; a rejected line is in Sta13 and takes no second request.
func TestRejected(t *testing.T) {
	c := config()
	c.Callers = []string{"CT1", "CT 2"}
	c.Lines = 1
	reasons := []struct {
		turn  func(*api.Associate)
		bytes []byte
	}{
		{func(a *api.Associate) { a.Version = 2 }, rejecting(1, 2, 2)},
		{func(a *api.Associate) { a.App = "1.2" }, rejecting(1, 1, 2)},
		{func(a *api.Associate) { a.Called = "MW" }, rejecting(1, 1, 7)},
		{func(a *api.Associate) { a.Calling = "CT2" }, rejecting(1, 1, 3)},
		{func(a *api.Associate) { a.User.MaxLength = 63 }, rejecting(1, 1, 1)},
	}
	for i := range reasons {
		for j := i; j < len(reasons); j++ {
			b := begun(t, c, fresh())
			do(t, b, link(9))
			rq := asking(64)
			reasons[j].turn(&rq.Assoc)
			reasons[i].turn(&rq.Assoc)
			gives(t, "P16.4: a rejection", b, data(9, laid(rq)), sends(9, reasons[i].bytes)...)
			if got := b.Line(9); !same(got, api.LineLook{Sta: 13}) {
				t.Fatalf("P16.4: a rejection: %s", shown(got))
			}
			gives(t, "P16.4: a second request", b, data(9, laid(asking(64))), sends(9, aborting(2, 2))...)
			gives(t, "P16.4: data", b, data(9, said(echo(1))))
			gives(t, "P16.6", b, tick(3), shuts(9))
			associate(t, b, 9, 64)
			do(t, b, link(8))
			gives(t, "P16.4: with a busy line too", b, data(8, laid(rq)), sends(8, reasons[i].bytes)...)
		}
	}
	b := begun(t, c, fresh())
	do(t, b, link(0))
	rq := asking(64)
	rq.Assoc.Calling = "CT 2"
	do(t, b, data(0, laid(rq)))
	isIn(t, "P16.4: a caller that may", b, 0, 6)
}

// TestBusy: the lines with an association are counted, no others, and not the line itself.
func TestBusy(t *testing.T) {
	for lines := 1; lines <= 16; lines++ {
		c := wideConfig()
		c.Lines = lines
		b := over16(t, c)
		for n := range 16 {
			do(t, b, link(n))
		}
		for n := range 16 {
			n = 15 - n
			want := accepting()
			if 15-n >= lines {
				want = rejecting(2, 3, 2)
			}
			gives(t, "P16.4: so many lines", b, data(n, laid(asking(64))), sends(n, want)...)
		}
		do(t, b, drop(15), drop(0), link(0))
		gives(t, "P16.4: a line that has become free", b, data(0, laid(asking(64))), sends(0, accepting())...)
	}
}

func over16(t *testing.T, c api.Config) *broker.Broker {
	t.Helper()
	return begun(t, c, diskOf(t, scheduled("A")).Image())
}

// TestBusyStates: a line that is leaving has its association; one that was released or aborted has none.
func TestBusyStates(t *testing.T) {
	c := wideConfig()
	c.Lines = 1
	for name, x := range map[string]struct {
		acts []api.Act
		busy bool
	}{
		"linked":   {[]api.Act{link(0)}, false},
		"at work":  {[]api.Act{link(0), data(0, laid(asking(64)))}, true},
		"leaving":  {[]api.Act{link(0), data(0, laid(asking(64)), said(find(1)), releaseRQ())}, true},
		"released": {[]api.Act{link(0), data(0, laid(asking(64)), releaseRQ())}, false},
		"aborted":  {[]api.Act{link(0), data(0, laid(asking(64)), unknownPdu())}, false},
		"rejected": {[]api.Act{link(0), data(0, laid(asking(63)))}, false},
		"gone":     {[]api.Act{link(0), data(0, laid(asking(64))), drop(0)}, false},
	} {
		b := over16(t, c)
		do(t, b, x.acts...)
		do(t, b, link(5))
		want := accepting()
		if x.busy {
			want = rejecting(2, 3, 2)
		}
		gives(t, "P16.4: beside one that is "+name, b, data(5, laid(asking(64))), sends(5, want)...)
	}
}

// comes is what every kind of PDU, and what is none, does in each state: the Outs' PDUs, whether the line is shut, the state behind it.
var comes = []struct {
	name  string
	bytes []byte
	then  map[int]string // by the state: the PDU that goes out, "shut", "" for nothing; and the state behind it
}{
	{"A-ASSOCIATE-AC", accepting(), map[int]string{2: "abort00 13", 6: "abort22 13", 8: "abort22 13", 13: " 13"}},
	{"A-ASSOCIATE-RJ", rejecting(1, 1, 1), map[int]string{2: "abort00 13", 6: "abort22 13", 8: "abort22 13", 13: " 13"}},
	{"A-ASSOCIATE-RQ", laid(asking(64)), map[int]string{6: "abort22 13", 8: "abort22 13", 13: "abort22 13"}},
	{"P-DATA-TF", said(cancel(9)), map[int]string{2: "abort00 13", 6: " 6", 8: "abort22 13", 13: " 13"}},
	{"A-RELEASE-RQ", releaseRQ(), map[int]string{2: "abort00 13", 6: " 8", 8: "abort22 13", 13: " 13"}},
	{"A-RELEASE-RP", releaseRP(), map[int]string{2: "abort00 13", 6: "abort22 13", 8: "abort22 13", 13: " 13"}},
	{"A-ABORT of the user", aborting(0, 0), map[int]string{2: "shut 1", 6: "shut 1", 8: "shut 1", 13: "shut 1"}},
	{"A-ABORT of the provider", aborting(2, 6), map[int]string{2: "shut 1", 6: "shut 1", 8: "shut 1", 13: "shut 1"}},
	{"an unknown PDU", unknownPdu(), map[int]string{2: "abort00 13", 6: "abort21 13", 8: "abort21 13", 13: "abort21 13"}},
	{"an invalid PDU", invalidPdu(), map[int]string{2: "abort00 13", 6: "abort26 13", 8: "abort26 13", 13: "abort26 13"}},
	{"a length that may not be", []byte{5, 0, 0, 0, 0, 5}, map[int]string{2: "abort00 13", 6: "abort26 13", 8: "abort26 13", 13: "abort26 13"}},
	{"a P-DATA-TF that is too long", []byte{4, 0, 0, 0, 0x40, 1}, map[int]string{2: "abort00 13", 6: "abort26 13", 8: "abort26 13", 13: "abort26 13"}},
	{"an A-ASSOCIATE-RQ that is too long", []byte{1, 0, 0, 0, 0x80, 1}, map[int]string{2: "abort00 13", 6: "abort26 13", 8: "abort26 13", 13: "abort26 13"}},
}

// inState is a server whose line 4 is in a state, with a query running, if it is in Sta6 or Sta8.
func inState(t *testing.T, sta int) *broker.Broker {
	t.Helper()
	b := over(t, scheduled("A"))
	do(t, b, link(4))
	switch sta {
	case 6:
		do(t, b, data(4, laid(asking(64)), said(find(1))))
	case 8:
		do(t, b, data(4, laid(asking(64)), said(find(1)), releaseRQ()))
	case 13:
		do(t, b, data(4, laid(asking(63))))
	}
	isIn(t, "the test's line", b, 4, sta)
	return b
}

// TestComes: every PDU in every state, in one chunk and byte by byte.
func TestComes(t *testing.T) {
	pdus := map[string][]byte{"abort00": aborting(0, 0), "abort21": aborting(2, 1), "abort22": aborting(2, 2), "abort26": aborting(2, 6)}
	for _, x := range comes {
		for sta, then := range x.then {
			out, after := then[:slices.Index([]byte(then), ' ')], then[slices.Index([]byte(then), ' ')+1:]
			var want []api.Out
			if out == "shut" {
				want = []api.Out{shuts(4)}
			} else if out != "" {
				want = sends(4, pdus[out])
			}
			state := map[string]int{"1": 1, "6": 6, "8": 8, "13": 13}[after]
			b := inState(t, sta)
			gives(t, "P16.4: "+x.name, b, data(4, x.bytes), want...)
			isIn(t, "P16.4: "+x.name, b, 4, state)
			isGone := b.Line(4).Contexts == nil && b.Line(4).Most == 0 && !b.Line(4).Query && !b.Line(4).Leaving && b.Owed(4) == 0 && b.Held(4) == 0
			if isGone != (state == 1 || state == 13 || state == 2) {
				t.Errorf("P16.2: %s in Sta%d: what the line has: %s", x.name, sta, shown(b.Line(4)))
			}
			b = inState(t, sta)
			for i, c := range x.bytes {
				if i < len(x.bytes)-1 {
					gives(t, "P16.4: byte by byte: "+x.name, b, data(4, []byte{c}))
					continue
				}
				gives(t, "P16.4: the last byte: "+x.name, b, data(4, []byte{c}), want...)
			}
			isIn(t, "P16.4: byte by byte: "+x.name, b, 4, state)
		}
	}
}

// TestDeadStream: behind what is no PDU nothing on that connection is a PDU any more.
func TestDeadStream(t *testing.T) {
	for _, dead := range [][]byte{unknownPdu(), invalidPdu()} {
		for _, sta := range []int{2, 6, 8, 13} {
			b := inState(t, sta)
			if outs := do(t, b, data(4, dead, aborting(0, 0), unknownPdu())); len(outs) != 1 {
				t.Fatalf("P16.4: behind it: %s", shown(outs))
			}
			for _, x := range comes {
				gives(t, "P16.4: a dead stream: "+x.name, b, data(4, x.bytes))
			}
			if got := b.Line(4); !same(got, api.LineLook{Sta: 13}) {
				t.Fatalf("P16.4: a dead stream: %s", shown(got))
			}
			gives(t, "P16.6: the timer", b, tick(100), shuts(4))
			associate(t, b, 4, 64)
		}
	}
}

// TestBehindShut: the rest of a chunk behind OShut is nothing.
func TestBehindShut(t *testing.T) {
	for _, sta := range []int{2, 6, 8, 13} {
		b := inState(t, sta)
		gives(t, "P16.4: behind OShut", b, data(4, aborting(0, 0), laid(asking(64)), unknownPdu()), shuts(4))
		isIdle(t, "P16.4: behind OShut", b, 4)
		gives(t, "P16.4: the rest is not kept", b, data(4, laid(asking(64))))
		associate(t, b, 4, 64)
	}
}

// TestChunk: one chunk with a whole conversation, and every cut of it in two, and byte by byte.
func TestChunk(t *testing.T) {
	talk := slices.Concat(laid(asking(100)), said(echo(1), create(2, "1.9", plain("A")), echo(3)), releaseRQ(), said(echo(4)), releaseRP())
	want := slices.Concat(sends(4, accepting()), answers(4, 100, answer(echo(1), 0), answer(create(2, "1.9", plain("A")), 0), answer(echo(3), 0)), sends(4, releaseRP()))
	for cut := 0; cut < len(talk); cut += 7 {
		b := over(t, scheduled("A"))
		outs := do(t, b, link(4), data(4, talk[:cut]), data(4, talk[cut:]))
		if !same(outs, want) {
			t.Fatalf("P16.4: cut at %d: %s, not %s", cut, shown(outs), shown(want))
		}
		if got := b.Line(4); !same(got, api.LineLook{Sta: 13}) {
			t.Fatalf("P16.4: cut at %d: %s", cut, shown(got))
		}
	}
	b := over(t, scheduled("A"))
	outs := do(t, b, link(4))
	for i := range talk {
		outs = append(outs, do(t, b, data(4, talk[i:i+1]), data(4))...)
	}
	if !same(outs, want) {
		t.Fatalf("P16.4: byte by byte: %s", shown(outs))
	}
}

// TestFragments: messages over several PDUs, and several messages in one PDU.
func TestFragments(t *testing.T) {
	b := over(t, scheduled("A"))
	associate(t, b, 4, 200)
	for _, size := range []int{1, 2, 7, 50, 16000} {
		m := create(2, "1.9", plain("A"))
		for i, v := range fragments(m, size) {
			if i == len(fragments(m, size))-1 {
				break
			}
			gives(t, "P16.4: a fragment", b, data(4, dataPdu(v)))
		}
		v := fragments(m, size)
		outs := do(t, b, data(4, dataPdu(v[len(v)-1])))
		if got := statuses(heard(t, 4, outs)); len(got) != 1 || got[0] != 0 && got[0] != 0x111 {
			t.Fatalf("P16.4: the last fragment: %x", got)
		}
		values := slices.Concat(fragments(echo(1), size), fragments(get(5, "1.9", api.TagModality), size), fragments(echo(7), size))
		gives(t, "P16.4: one PDU", b, data(4, dataPdu(values...)),
			answers(4, 200, answer(echo(1), 0), withData(answer(get(5, "1.9"), 0), el(api.TagModality, "CT")), answer(echo(7), 0))...)
	}
}

// TestFragmentsRefused: what layer 10 refuses aborts, and what is left of the PDU and of the message is let go.
func TestFragmentsRefused(t *testing.T) {
	good := fragments(echo(1), 16000)
	half := func(context uint8) api.Pdv { return api.Pdv{Context: context, Command: true, Data: []byte{0}} }
	answerTo := answer(echo(1), 0)
	cancelWithData := cancel(1)
	cancelWithData.Cmd.HasData = true
	for name, values := range map[string][]api.Pdv{
		"a context that is not agreed": {half(15)},
		"another context":              {half(1), half(3)},
		"data without a command":       {{Context: 1, Last: true}},
		"a command within the data":    append(fragments(find(1), 16000)[:1:1], half(3)),
		"too long a command":           {{Context: 1, Command: true, Data: make([]byte, 4096)}, half(1)},
		"no command":                   {{Context: 1, Command: true, Last: true, Data: []byte{1, 2, 3}}},
		"an answer":                    fragments(answerTo, 16000),
		"a C-CANCEL with data":         fragments(cancelWithData, 16000)[:1],
	} {
		for _, ahead := range []bool{false, true} {
			b := over(t, scheduled("A"))
			associate(t, b, 4, 200)
			all := append(slices.Clone(values), good...)
			want := sends(4, aborting(0, 0))
			if ahead {
				all = append(slices.Clone(good), all...)
				want = append(answers(4, 200, answerTo), want...)
			}
			gives(t, "P16.4: "+name, b, data(4, dataPdu(all...), said(echo(2))), want...)
			if got := b.Line(4); !same(got, api.LineLook{Sta: 13}) {
				t.Fatalf("P16.4: %s: %s", name, shown(got))
			}
		}
	}
	b := over(t, scheduled("A"))
	associate(t, b, 4, 200)
	m := askWith(3, api.CFind, 1, "", wide())
	m.Data = make([]byte, 65537)
	gives(t, "P16.4: too many data", b, data(4, said(m)), sends(4, aborting(0, 0))...)
}

// TestServiceAborts: what layer 15 aborts ends the association; what is left of the PDU is let go, and nothing that waits is answered.
func TestServiceAborts(t *testing.T) {
	b := over(t, scheduled("A"))
	associate(t, b, 4, 200)
	do(t, b, data(4, said(find(1))))
	for id := range uint16(8) {
		gives(t, "it waits", b, data(4, said(echo(10+id))))
	}
	values := slices.Concat(fragments(echo(50), 16000), fragments(cancel(1), 16000), fragments(echo(51), 16000))
	gives(t, "P16.5: a ninth", b, data(4, dataPdu(values...), said(cancel(1))), sends(4, aborting(0, 0))...)
	if got := b.Line(4); !same(got, api.LineLook{Sta: 13}) {
		t.Fatalf("P16.5: %s", shown(got))
	}
	gives(t, "P16.6: nothing runs", b, turn(9))
}
