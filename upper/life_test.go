package upper_test

import (
	"testing"

	"modality/api"
	"modality/upper"
)

// life is a provider, and what has become of its association since it was connected.
type life struct {
	provider upper.Provider
	past     past
}

// past is what a life is known again by.
type past struct {
	state api.UpperState
	told  int  // associations that its user was told of
	ended bool // an A-ABORT or A-RELEASE-RP of its own has led to Sta13
}

// happens is the life behind an event; it fails if the event breaks what holds.
func (l life) happens(t *testing.T, e api.UpperEvent, artim int) life {
	t.Helper()
	before := l.past
	acts := l.provider.Do(e)
	l.past.state = l.provider.State()
	sta := l.past.state.Sta
	for _, a := range acts {
		switch {
		case a.Kind == api.UpConnect || a.Kind == api.UpAnswer:
			if before.state.Sta != 1 || sta == 1 {
				t.Errorf("P9.9: %+v, event %d: %s", before, e.Kind, shown(acts))
			}
			l.past.told, l.past.ended = 0, false
		case a.Kind == api.UpTell && (a.Word == api.TellAssociate || a.Word == api.TellAccepted):
			l.past.told++
		case a.Kind == api.UpSend && a.Pdu.Kind == api.PduData:
			if before.state.Sta != 6 && before.state.Sta != 8 {
				t.Errorf("P9.9: %+v, event %d sends data", before, e.Kind)
			}
		case a.Kind == api.UpSend && sta == 13 && (a.Pdu.Kind == api.PduAbort || a.Pdu.Kind == api.PduReleaseRP):
			l.past.ended = true
		}
		if a.Kind == api.UpSend && before.ended && a.Pdu.Kind != api.PduAbort {
			t.Errorf("P9.9: %+v, event %d: behind the end it sends %s", before, e.Kind, shown(acts))
		}
	}
	if l.past.told > 1 {
		t.Errorf("P9.9: %+v, event %d: a second association is told: %s", before, e.Kind, shown(acts))
	}
	if s := l.past.state; s.Timed != (sta == 2 || sta == 13) || s.Timed != (s.Left > 0) || s.Left < 0 || s.Left > artim {
		t.Errorf("P9.8: %+v, event %d: %+v", before, e.Kind, s)
	}
	if sta == 1 {
		if l.past.state != (api.UpperState{Sta: 1}) {
			t.Errorf("P9.6: idle, but %+v", l.past.state)
		}
		l.past.told, l.past.ended = 0, false
	}
	return l
}

// wantIdle fails if ticks alone do not end a life in Sta2 or Sta13 when they must.
func (l life) wantIdle(t *testing.T) {
	t.Helper()
	for left := l.past.state.Left; left > 0; left-- {
		if s := l.provider.State(); s.Left != left || s.Sta != l.past.state.Sta {
			t.Errorf("P9.10: %+v: %+v, where %d ticks are left", l.past, s, left)
		}
		var want []api.UpperAct
		if left == 1 {
			want = []api.UpperAct{shutAct()}
		}
		if got := l.provider.Do(good(api.EvTick)); !same(got, want) {
			t.Errorf("P9.10: %+v, with %d left: %s", l.past, left, shown(got))
		}
	}
	if s := l.provider.State(); s.Sta != 1 || s.Timed {
		t.Errorf("P9.10: %+v: behind its ticks %+v", l.past, s)
	}
}

// TestLives: every life that there is, event by event, the good ones and the wrong ones.
func TestLives(t *testing.T) {
	for _, artim := range []int{1, 2, 5} {
		var all []api.UpperEvent
		for kind := range 22 {
			all = append(all, good(kind), api.UpperEvent{Kind: kind})
		}
		spoilt := bad()
		spoilt.Answer.Kind = api.PduAbort
		all = append(all, bad(), spoilt, api.UpperEvent{Kind: api.EvAbortPdu, Pdu: abortPdu(2, 6)})
		first := life{*begin(t, artim), past{state: api.UpperState{Sta: 1}}}
		seen := map[past]bool{first.past: true}
		places := map[place]bool{}
		for queue := []life{first}; len(queue) > 0; queue = queue[1:] {
			l := queue[0]
			places[place{l.past.state.Sta, l.past.state.Asked}] = true
			if l.past.state.Sta == 2 || l.past.state.Sta == 13 {
				l.wantIdle(t)
			}
			for _, e := range all {
				if next := l.happens(t, e, artim); !seen[next.past] {
					seen[next.past] = true
					queue = append(queue, next)
				}
			}
		}
		if len(places) != len(ways()) {
			t.Errorf("P9.5: %d places were come to: %v", len(places), places)
		}
	}
}
