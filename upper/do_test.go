package upper_test

import (
	"math"
	"math/rand"
	"testing"

	"modality/api"
	"modality/upper"
)

// TestNew: which timers may be, and what a new provider is.
func TestNew(t *testing.T) {
	for n := -300; n <= api.MaxArtim+300; n++ {
		wantNew(t, n, n >= 1 && n <= 1000)
	}
	for _, n := range []int{math.MinInt, math.MinInt32, 1 << 16, 1<<16 + 1, 1<<32 + 1, 1<<32 + 1000, math.MaxInt} {
		wantNew(t, n, false)
	}
}

func wantNew(t *testing.T, artim int, may bool) {
	t.Helper()
	p, err := upper.New(artim)
	if !may {
		if p != nil || !is(err, api.ErrUpperArtim, 0) {
			t.Errorf("P9.4: New(%d): %v, %v", artim, p, err)
		}
		return
	}
	if p == nil || err != nil {
		t.Errorf("P9.4: New(%d): %v, %v", artim, p, err)
		return
	}
	if s := p.State(); s != (api.UpperState{Sta: 1}) {
		t.Errorf("P9.4, P9.6: New(%d) is %+v", artim, s)
	}
	p.Do(good(api.EvOpened))
	if s := p.State(); s != (api.UpperState{Sta: 2, Timed: true, Left: artim}) {
		t.Errorf("P9.4, P9.6: New(%d), opened, is %+v", artim, s)
	}
}

// TestTimerExample: the document's first example, for every length of the timer at its edges.
func TestTimerExample(t *testing.T) {
	for _, artim := range []int{1, 2, 3, 255, 256, 257, 999, 1000} {
		p := begin(t, artim)
		wantDone(t, p, good(api.EvTick), api.UpperState{Sta: 1})
		wantDone(t, p, good(api.EvOpened), api.UpperState{Sta: 2, Timed: true, Left: artim}, answerAct())
		for left := artim - 1; left > 0; left-- {
			wantDone(t, p, good(api.EvTick), api.UpperState{Sta: 2, Timed: true, Left: left})
		}
		wantDone(t, p, good(api.EvTick), api.UpperState{Sta: 1}, shutAct())
		wantDone(t, p, good(api.EvTick), api.UpperState{Sta: 1})
		wantDone(t, p, good(api.EvOpened), api.UpperState{Sta: 2, Timed: true, Left: artim}, answerAct())
	}
}

// TestAnsweringExample: the document's second example.
func TestAnsweringExample(t *testing.T) {
	p := begin(t, 3)
	rq, ac, in, out := whole(api.PduRQ, 1), whole(api.PduAC, 2), whole(api.PduData, 3), whole(api.PduData, 4)
	wantDone(t, p, good(api.EvOpened), api.UpperState{Sta: 2, Timed: true, Left: 3}, answerAct())
	wantDone(t, p, api.UpperEvent{Kind: api.EvRqPdu, Pdu: rq}, api.UpperState{Sta: 3}, tellPduAct(api.TellAssociate, clone(rq)))
	wantDone(t, p, api.UpperEvent{Kind: api.EvAccept, Pdu: ac}, api.UpperState{Sta: 6}, sendAct(clone(ac)))
	wantDone(t, p, api.UpperEvent{Kind: api.EvDataPdu, Pdu: in}, api.UpperState{Sta: 6}, tellPduAct(api.TellData, clone(in)))
	wantDone(t, p, api.UpperEvent{Kind: api.EvRqEnd, Pdu: whole(api.PduReleaseRQ, 5)}, api.UpperState{Sta: 8}, tellAct(api.TellRelease))
	wantDone(t, p, api.UpperEvent{Kind: api.EvData, Pdu: out}, api.UpperState{Sta: 8}, sendAct(clone(out)))
	wantDone(t, p, good(api.EvReleased), api.UpperState{Sta: 13, Timed: true, Left: 3}, sendAct(api.Pdu{Kind: api.PduReleaseRP}))
	wantDone(t, p, good(api.EvClosed), api.UpperState{Sta: 1})
}

// TestCollisionExample: the document's third example, both sides.
func TestCollisionExample(t *testing.T) {
	p := reach(t, 4, place{6, true})
	wantDone(t, p, good(api.EvRelease), api.UpperState{Sta: 7, Asked: true}, sendAct(api.Pdu{Kind: api.PduReleaseRQ}))
	wantDone(t, p, good(api.EvRqEnd), api.UpperState{Sta: 9, Asked: true}, tellAct(api.TellRelease))
	wantDone(t, p, good(api.EvReleased), api.UpperState{Sta: 11, Asked: true}, sendAct(api.Pdu{Kind: api.PduReleaseRP}))
	wantDone(t, p, good(api.EvRpEnd), api.UpperState{Sta: 1}, tellAct(api.TellReleased), shutAct())
	p = reach(t, 4, place{6, false})
	wantDone(t, p, good(api.EvRelease), api.UpperState{Sta: 7}, sendAct(api.Pdu{Kind: api.PduReleaseRQ}))
	wantDone(t, p, good(api.EvRqEnd), api.UpperState{Sta: 10}, tellAct(api.TellRelease))
	wantDone(t, p, good(api.EvReleased), api.UpperState{Sta: 10})
	wantDone(t, p, good(api.EvRpEnd), api.UpperState{Sta: 12}, tellAct(api.TellReleased))
	wantDone(t, p, good(api.EvReleased), api.UpperState{Sta: 13, Timed: true, Left: 4}, sendAct(api.Pdu{Kind: api.PduReleaseRP}))
}

// TestInvalidExample: the document's fourth and fifth examples.
func TestInvalidExample(t *testing.T) {
	for reason := range 256 {
		p := reach(t, 4, place{6, false})
		invalid := api.UpperEvent{Kind: api.EvInvalid, Reason: uint8(reason)}
		wantDone(t, p, invalid, api.UpperState{Sta: 13, Timed: true, Left: 4}, sendAct(abortPdu(2, uint8(reason))), tellAct(api.TellBroken))
		wantDone(t, p, good(api.EvTick), api.UpperState{Sta: 13, Timed: true, Left: 3})
		wantDone(t, p, invalid, api.UpperState{Sta: 13, Timed: true, Left: 3}, sendAct(abortPdu(2, uint8(reason))))
		wantDone(t, p, good(api.EvDataPdu), api.UpperState{Sta: 13, Timed: true, Left: 3})
		wantDone(t, p, good(api.EvRqPdu), api.UpperState{Sta: 13, Timed: true, Left: 3}, sendAct(abortPdu(2, 2)))
	}
	p := reach(t, 4, place{4, true})
	wantDone(t, p, good(api.EvAbort), api.UpperState{Sta: 1}, shutAct())
	wantDone(t, p, good(api.EvAbort), api.UpperState{Sta: 1})
}

// TestBad: a request that this side can't take, in the state that awaits one and in the others, with every kind of answer.
func TestBad(t *testing.T) {
	rj := whole(api.PduRJ, 7)
	wantDone(t, reach(t, 9, place{2, false}), api.UpperEvent{Kind: api.EvRqPdu, Pdu: whole(api.PduRQ, 6), Bad: true, Answer: rj}, api.UpperState{Sta: 13, Timed: true, Left: 9}, sendAct(clone(rj)))
	for kind := -1; kind < 10; kind++ {
		if kind == api.PduRJ {
			continue
		}
		for to := range ways() {
			p := reach(t, 9, to)
			e := bad()
			e.Answer = whole(kind, 8)
			wantDone(t, p, e, p.State())
		}
	}
}

// TestAbortHeard: who has aborted is told by the PDU's source alone.
func TestAbortHeard(t *testing.T) {
	for source := range 256 {
		word := api.TellBroken
		if source == 0 {
			word = api.TellAbort
		}
		came := whole(api.PduAbort, 9)
		came.Source = uint8(source)
		for _, to := range []place{{3, false}, {5, true}, {6, true}, {9, true}, {12, false}} {
			wantDone(t, reach(t, 2, to), api.UpperEvent{Kind: api.EvAbortPdu, Pdu: came}, api.UpperState{Sta: 1}, tellPduAct(word, clone(came)), shutAct())
		}
	}
}

// TestKept: the request that goes out is that of the last EvAssociate that was taken.
func TestKept(t *testing.T) {
	p := begin(t, 2)
	first, second := whole(api.PduRQ, 1), whole(api.PduRQ, 2)
	wantDone(t, p, api.UpperEvent{Kind: api.EvAssociate, Pdu: first}, api.UpperState{Sta: 4, Asked: true}, connectAct())
	wantDone(t, p, api.UpperEvent{Kind: api.EvAssociate, Pdu: second}, api.UpperState{Sta: 4, Asked: true})
	wantDone(t, p, api.UpperEvent{Kind: api.EvConnected, Pdu: second}, api.UpperState{Sta: 5, Asked: true}, sendAct(clone(first)))
	wantDone(t, p, good(api.EvClosed), api.UpperState{Sta: 1}, tellAct(api.TellBroken))
	wantDone(t, p, api.UpperEvent{Kind: api.EvAssociate, Pdu: second}, api.UpperState{Sta: 4, Asked: true}, connectAct())
	wantDone(t, p, good(api.EvConnected), api.UpperState{Sta: 5, Asked: true}, sendAct(clone(second)))
}

// TestAskedAnew: a side that has asked may answer next time, and the other way round.
func TestAskedAnew(t *testing.T) {
	p := begin(t, 2)
	for _, round := range []struct {
		kinds []int
		sta   int
		asked bool
	}{{[]int{1, 2, 3, 11, 12}, 9, true}, {[]int{5, 6, 7, 11, 12}, 10, false}, {[]int{1, 2, 3, 11, 12}, 9, true}, {[]int{5, 6, 7, 11, 12}, 10, false}} {
		for _, kind := range round.kinds {
			p.Do(good(kind))
		}
		if s := p.State(); s != (api.UpperState{Sta: round.sta, Asked: round.asked}) {
			t.Errorf("P9.5: behind %v: %+v", round.kinds, s)
		}
		wantDone(t, p, good(api.EvClosed), api.UpperState{Sta: 1}, tellAct(api.TellBroken))
	}
}

// events is every kind with every kind of PDU, all else full of what must not be looked at where it is not used.
func events() []api.UpperEvent {
	var all []api.UpperEvent
	kinds := far()
	for kind := -1; kind < 24; kind++ {
		kinds = append(kinds, kind)
	}
	for i, kind := range kinds {
		for pdu := -1; pdu <= 8; pdu++ {
			e := api.UpperEvent{Kind: kind, Pdu: whole(pdu, i), Reason: uint8(i + 40)}
			all = append(all, e)
			if pdu != kindOf(kind) && pdu != api.PduRQ {
				continue
			}
			none := e
			none.Pdu.Source = 0
			all = append(all, none, api.UpperEvent{Kind: kind, Pdu: api.Pdu{Kind: pdu}})
			for answer := -1; answer <= 8; answer++ {
				e.Bad, e.Answer = answer%2 != 0, whole(answer, i+1)
				all = append(all, e)
				e.Bad = true
				all = append(all, e)
			}
		}
	}
	return all
}

// TestEvents: every event at every place does what the document's tables say, with ticks gone by or not.
func TestEvents(t *testing.T) {
	all, tables := events(), readDocument()
	for to, way := range ways() {
		for _, e := range all {
			for ticks := range 3 {
				p, m := reach(t, 3, to), newModel(tables, 3)
				for _, kind := range way {
					m.do(good(kind))
				}
				for range ticks {
					p.Do(good(api.EvTick))
					m.do(good(api.EvTick))
				}
				if want := m.do(e); !same(p.Do(e), want) || p.State() != m.state {
					t.Errorf("P9.5: %+v, %d ticks, %s: %+v; want %+v, %s", to, ticks, shown(e), p.State(), m.state, shown(want))
				}
			}
		}
	}
}

// someEvent is any event, most often one that does something in that state.
func someEvent(r *rand.Rand, sta int) api.UpperEvent {
	e := api.UpperEvent{Kind: r.Intn(23) - 1}
	for range r.Intn(30) {
		if upper.Action(sta, e.Kind) != api.ActNone || e.Kind == api.EvTick {
			break
		}
		e.Kind = 1 + r.Intn(20)
	}
	e.Pdu = whole(kindOf(e.Kind), r.Intn(200))
	if r.Intn(15) == 0 {
		e.Pdu.Kind = r.Intn(9)
	}
	if r.Intn(3) == 0 {
		e.Bad, e.Answer, e.Reason = r.Intn(2) == 0, whole(api.PduRJ, r.Intn(200)), uint8(r.Intn(256))
	}
	if r.Intn(15) == 0 {
		e.Answer.Kind = r.Intn(9)
	}
	return e
}

// TestWalks: long lives of a provider, against the model.
func TestWalks(t *testing.T) {
	tables := readDocument()
	for seed := range int64(60) {
		r := rand.New(rand.NewSource(seed))
		artim := 1 + r.Intn(4)
		p, m := begin(t, artim), newModel(tables, artim)
		seen := map[place]int{}
		for range 2000 {
			e := someEvent(r, m.state.Sta)
			before := m.state
			want := m.do(e)
			if got := p.Do(e); !same(got, want) || p.State() != m.state {
				t.Fatalf("P9.5: %+v, %s: %+v, %s; want %+v, %s", before, shown(e), p.State(), shown(got), m.state, shown(want))
			}
			seen[place{m.state.Sta, m.state.Asked}]++
		}
		if len(seen) < 8 {
			t.Errorf("the walk %d has seen %v alone", seed, seen)
		}
	}
}
