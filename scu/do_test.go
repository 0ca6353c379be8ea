package scu_test

import (
	"slices"
	"testing"

	"modality/api"
)

// TestConnect: a scanner asks for what it is made for, whenever it is idle, and then alone (P17.2).
func TestConnect(t *testing.T) {
	for _, c := range []api.ScuConfig{exampleConfig(), wideConfig(), {Title: "A B", Called: "x", Classes: repeated("1.2.840", 128), Syntaxes: []api.Syntax{api.Implicit}, Most: 1<<32 - 1, Artim: 1}} {
		s := fresh(t, c)
		for range 3 {
			gives(t, "P17.2: DoConnect", do(t, s, kind(api.DoConnect)), opens())
			isIn(t, "P17.2: DoConnect", s, api.ScuState{Sta: 4})
			gives(t, "P17.2: DoConnect", s.Opened(), sendsPdu(requesting(c)))
			isIn(t, "P17.2: DoConnect", s, api.ScuState{Sta: 5})
			gives(t, "P17.5", s.Closed(), says(api.TellBroken))
			isIn(t, "P17.5", s, api.ScuState{Sta: 1})
		}
	}
	for _, sta := range places() {
		if sta > 1 {
			refuses(t, "P17.2: DoConnect", sta, kind(api.DoConnect), api.ErrScuState)
		}
	}
}

// refuses: in a state a Do is refused at 0, and nothing has changed.
func refuses(t *testing.T, what string, sta int, d api.ScuDo, reason error) {
	t.Helper()
	s := reach(t, sta)
	if outs, err := s.Do(d); outs != nil || !isFault(err, 0, reason) {
		t.Errorf("%s: in Sta%d, %s: %s, %v", what, sta, shown(d), shown(outs), err)
	}
	isIn(t, what, s, resting(sta))
}

// TestRelease: the user's end of an association (P17.2).
func TestRelease(t *testing.T) {
	for _, sta := range places() {
		if sta != 6 {
			refuses(t, "P17.2: DoRelease", sta, kind(api.DoRelease), api.ErrScuState)
			continue
		}
		s := reach(t, sta)
		gives(t, "P17.2: DoRelease", do(t, s, kind(api.DoRelease)), sendsPdu(askEnd()))
		isIn(t, "P17.2: DoRelease", s, resting(7))
	}
}

// TestAbort: the user aborts (P17.2).
func TestAbort(t *testing.T) {
	for _, sta := range places() {
		if sta == 1 || sta == 13 {
			refuses(t, "P17.2: DoAbort", sta, kind(api.DoAbort), api.ErrScuState)
			continue
		}
		s := reach(t, sta)
		outs := do(t, s, kind(api.DoAbort))
		if sta == 4 {
			gives(t, "P17.2: DoAbort in Sta4", outs, shuts())
			isIn(t, "P17.2: DoAbort in Sta4", s, api.ScuState{Sta: 1})
			continue
		}
		gives(t, "P17.2: DoAbort", outs, sendsPdu(aborting(0, 0)))
		want := resting(sta)
		want.Sta = 13
		isIn(t, "P17.2: DoAbort", s, want)
	}
}

// TestTick: ticks are the timer's, which runs in Sta13 (P17.2).
func TestTick(t *testing.T) {
	for _, sta := range places() {
		for _, n := range []int{-1, -1 << 63, 100001, 1<<63 - 1} {
			s := reach(t, sta)
			if outs, err := s.Do(ticks(n)); outs != nil || !isFault(err, 1, api.ErrArg) {
				t.Errorf("P17.2: %d ticks: %s, %v", n, shown(outs), err)
			}
			isIn(t, "P17.2: DoTick", s, resting(sta))
		}
		for _, n := range []int{0, 1, 4, 5, 6, 100000} {
			s := reach(t, sta)
			outs := do(t, s, ticks(n))
			if sta != 13 || n < 5 {
				gives(t, "P17.2: DoTick", outs)
				isIn(t, "P17.2: DoTick", s, resting(sta))
				continue
			}
			gives(t, "P17.2: DoTick", outs, shuts())
			isIn(t, "P17.2: DoTick", s, api.ScuState{Sta: 1})
		}
	}
	s := reach(t, 13)
	for i := range 5 {
		if outs := do(t, s, ticks(1)); (i == 4) != same(outs, []api.ScuOut{shuts()}) {
			t.Fatalf("P17.2: tick %d: %s", i, shown(outs))
		}
	}
}

// TestNoKind: a kind that is none is refused, whatever the state (P17.2).
func TestNoKind(t *testing.T) {
	for _, sta := range places() {
		for _, k := range []int{0, -1, 11, 12, 1 << 40, -1 << 63, 1<<63 - 1} {
			refuses(t, "P17.2: no kind", sta, kind(k), api.ErrArg)
		}
	}
}

// TestRequestState: requests are sent in Sta6 alone (P17.2).
func TestRequestState(t *testing.T) {
	for _, sta := range places() {
		if sta == 6 {
			continue
		}
		for _, d := range requests() {
			refuses(t, "P17.2: a request", sta, d, api.ErrScuState)
			d.Id = 91
			refuses(t, "P17.2: a request", sta, d, api.ErrScuState)
		}
	}
}

// commands are what the requests of requests say, without their data.
func commands() []api.Message {
	return []api.Message{
		{Context: 1, Cmd: api.Cmd{Field: 0x30, Class: "1.2.840.10008.1.1", Id: 1}},
		withData(api.Message{Context: 3, Cmd: api.Cmd{Field: 0x20, Class: "1.2.840.10008.5.1.4.31", Id: 2}}, name("X")),
		{Context: 3, Cmd: api.Cmd{Field: 0xFFF, To: 2}},
		withData(api.Message{Context: 5, Cmd: api.Cmd{Field: 0x140, Class: "1.2.840.10008.3.1.2.3.3", Instance: "1.2", Id: 3}}, name("X")),
		withData(api.Message{Context: 5, Cmd: api.Cmd{Field: 0x120, Class: "1.2.840.10008.3.1.2.3.3", Instance: "1.2", Id: 4}}, name("X")),
		{Context: 7, Cmd: api.Cmd{Field: 0x110, Class: "1.2.840.10008.3.1.2.3.4", Instance: "1.2", Id: 5, Attrs: []api.Tag{api.TagModality}}},
	}
}

// TestRequests: each kind of request, with every length; all but DoCancel wait (P17.2).
func TestRequests(t *testing.T) {
	for _, most := range []uint32{64, 65, 66, 100, 200, 16384} {
		s := associated(t, most)
		want := api.ScuState{Sta: 6, Contexts: agreed(), Most: int(most)}
		for i, d := range requests() {
			gives(t, "P17.2: "+shown(d), do(t, s, d), sentAs(commands()[i], int(most))...)
			if d.Kind != api.DoCancel {
				want.Waiting = append(want.Waiting, d.Id)
			}
			isIn(t, "P17.2: "+shown(d), s, want)
		}
	}
}

// TestRequestAlone: fields that a kind does not use are not looked at (P17.2).
func TestRequestAlone(t *testing.T) {
	for i, d := range requests() {
		s := associated(t, 64)
		if d.Kind == api.DoCancel {
			do(t, s, find(2))
		}
		full := d
		full.Count = -7
		if d.Kind < api.DoCreate {
			full.UID = "no uid"
		}
		if d.Kind != api.DoGet {
			full.Attrs = make([]api.Tag, 5000)
		}
		if d.Kind != api.DoFind && d.Kind != api.DoCreate && d.Kind != api.DoSet {
			full.Nodes, full.Charset = []api.Node{{N: -1}}, "no set"
		}
		gives(t, "P17.2: "+shown(d), do(t, s, full), sentAs(commands()[i], 64)...)
	}
	for _, k := range []int{api.DoConnect, api.DoRelease, api.DoAbort, api.DoTick} {
		full := api.ScuDo{Kind: k, Id: 90, UID: "no uid", Nodes: []api.Node{{N: -1}}, Charset: "no set", Attrs: make([]api.Tag, 5000)}
		if k != api.DoTick {
			full.Count = -7
		}
		for _, sta := range places() {
			a, b := reach(t, sta), reach(t, sta)
			outs, err := a.Do(full)
			want, wrong := b.Do(kind(k))
			if !same(outs, want) || !same(err, wrong) {
				t.Errorf("P17.2: %s in Sta%d: %s, %v", shown(full), sta, shown(outs), err)
			}
		}
	}
}

// TestIds: an Id that waits is refused, whatever waits with it; DoCancel wants a C-FIND (P17.2).
func TestIds(t *testing.T) {
	for _, id := range []uint16{0, 1, 7, 0xFFFF} {
		for _, first := range requests() {
			if first.Kind == api.DoCancel {
				continue
			}
			first.Id = id
			for _, second := range requests() {
				s := associated(t, 64)
				do(t, s, first)
				second.Id = id + 1
				_, err := s.Do(second)
				if (err == nil) != (second.Kind != api.DoCancel) || err != nil && !isFault(err, 0, api.ErrScuId) {
					t.Fatalf("P17.2: another Id: %s: %v", shown(second), err)
				}
				was := s.State()
				second.Id = id
				outs, err := s.Do(second)
				if second.Kind == api.DoCancel && first.Kind == api.DoFind {
					if err != nil {
						t.Fatalf("P17.2: a C-CANCEL: %v", err)
					}
				} else if outs != nil || !isFault(err, 0, api.ErrScuId) {
					t.Fatalf("P17.2: %s behind %s: %v", shown(second), shown(first), err)
				}
				isIn(t, "P17.2: an Id", s, was)
			}
		}
	}
}

// TestIdAgain: an Id may be taken again behind its final answer; a C-FIND may be cancelled as long as it waits, and as often as one likes (P17.2).
func TestIdAgain(t *testing.T) {
	s := associated(t, 64)
	do(t, s, find(7))
	for _, status := range []uint16{0xFF00, 0xFF01} {
		gives(t, "P17.2: cancelled twice", append(do(t, s, cancel(7)), do(t, s, cancel(7))...), slices.Repeat(sentAs(api.Message{Context: 3, Cmd: api.Cmd{Field: 0xFFF, To: 7}}, 64), 2)...)
		s.Take(said(answer(3, 0x20, 7, status)))
		if _, err := s.Do(echo(7)); !isFault(err, 0, api.ErrScuId) {
			t.Fatalf("P17.2: behind a pending answer: %v", err)
		}
	}
	s.Take(said(answer(3, 0x20, 7, 0xFE00)))
	if _, err := s.Do(cancel(7)); !isFault(err, 0, api.ErrScuId) {
		t.Fatalf("P17.2: a C-CANCEL behind the final answer: %v", err)
	}
	do(t, s, echo(7))
	if _, err := s.Do(cancel(7)); !isFault(err, 0, api.ErrScuId) {
		t.Fatalf("P17.2: a C-CANCEL of a C-ECHO: %v", err)
	}
}

// TestContexts: without a context of its class a request is refused; the data are looked at behind that (P17.2).
func TestContexts(t *testing.T) {
	for left := range agreed() {
		only := agreed()[left]
		s := fresh(t, wideConfig())
		do(t, s, kind(api.DoConnect))
		s.Opened()
		s.Take(laid(accepting([]api.Context{only}, 64)))
		for i, d := range requests() {
			if d.Kind == api.DoCancel {
				continue
			}
			m := commands()[i]
			if m.Cmd.Class == only.Class {
				m.Context = only.Id
				if m.Cmd.HasData {
					m = withData(m, d.Nodes...)
				}
				gives(t, "P17.2: the only context", do(t, s, d), sentAs(m, 64)...)
				continue
			}
			d.UID, d.Attrs, d.Nodes, d.Charset = "no uid", make([]api.Tag, 5000), []api.Node{{N: -1}}, "no set"
			was := s.State()
			if outs, err := s.Do(d); outs != nil || !isFault(err, 0, api.ErrScuContext) {
				t.Errorf("P17.2: no context: %s: %s, %v", shown(d), shown(outs), err)
			}
			isIn(t, "P17.2: no context", s, was)
		}
	}
}

// TestLowest: of several contexts of a class that with the lowest number is taken, wherever it stands (P17.2).
func TestLowest(t *testing.T) {
	contexts := agreed()
	for range contexts {
		contexts = append(contexts[1:], contexts[0])
		s := fresh(t, wideConfig())
		do(t, s, kind(api.DoConnect))
		s.Opened()
		s.Take(laid(accepting(contexts, 64)))
		for i, d := range requests() {
			gives(t, "P17.2: the lowest context", do(t, s, d), sentAs(commands()[i], 64)...)
		}
	}
}
