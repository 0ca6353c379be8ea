package scu_test

import (
	"testing"

	"modality/api"
	"modality/scu"
)

// The examples of the document.

func exampleAccepted(t *testing.T) *scu.Scanner {
	t.Helper()
	s := fresh(t, exampleConfig())
	gives(t, "example 1", do(t, s, kind(api.DoConnect)), opens())
	isIn(t, "example 1", s, api.ScuState{Sta: 4})
	rq := requesting(exampleConfig())
	if x := rq.Assoc.Contexts; len(x) != 2 || x[0].Id != 1 || x[1].Id != 3 || x[0].Class != api.UIDVerify || x[1].Class != api.UIDWorklist || !same(x[0].Syntaxes, []string{api.UIDExplicit, api.UIDImplicit}) || !same(x[1].Syntaxes, x[0].Syntaxes) {
		t.Fatalf("example 1: the test's own request: %s", shown(rq))
	}
	gives(t, "example 1", s.Opened(), sendsPdu(rq))
	isIn(t, "example 1", s, api.ScuState{Sta: 5})
	ac := acceptingAs([]api.PresContext{{Id: 1, Syntaxes: []string{api.UIDExplicit}}, {Id: 3, Result: 3}}, api.UserInfo{})
	gives(t, "example 1", s.Take(laid(ac)), saysPdu(api.TellAccepted, ac))
	isIn(t, "example 1", s, api.ScuState{Sta: 6, Contexts: []api.Context{{Id: 1, Class: api.UIDVerify, Syntax: api.Explicit}}, Most: 16384})
	return s
}

func TestExample2(t *testing.T) {
	s := exampleAccepted(t)
	asked := api.Message{Context: 1, Cmd: api.Cmd{Field: 0x30, Class: api.UIDVerify, Id: 7}}
	gives(t, "example 2", do(t, s, echo(7)), sentAs(asked, 16384)...)
	waits := api.ScuState{Sta: 6, Contexts: []api.Context{{Id: 1, Class: api.UIDVerify, Syntax: api.Explicit}}, Most: 16384, Waiting: []uint16{7}}
	isIn(t, "example 2", s, waits)
	if outs, err := s.Do(echo(7)); outs != nil || !isFault(err, 0, api.ErrScuId) {
		t.Errorf("example 2: %s, %v", shown(outs), err)
	}
	if outs, err := s.Do(find(8)); outs != nil || !isFault(err, 0, api.ErrScuContext) {
		t.Errorf("example 2: %s, %v", shown(outs), err)
	}
	isIn(t, "example 2", s, waits)
	b := said(api.Message{Context: 1, Cmd: api.Cmd{Field: 0x8030, To: 7}})
	gives(t, "example 2", s.Take(b), answers(api.ScuReply{Id: 7, Field: 0x30}))
	waits.Waiting = nil
	isIn(t, "example 2", s, waits)
	gives(t, "example 2", s.Take(b), sends([]byte{7, 0, 0, 0, 0, 4, 0, 0, 0, 0}))
	waits.Sta = 13
	isIn(t, "example 2", s, waits)
	gives(t, "example 2", do(t, s, ticks(5)), shuts())
	isIn(t, "example 2", s, api.ScuState{Sta: 1})
}

func TestExample3(t *testing.T) {
	s := exampleAccepted(t)
	gives(t, "example 3", do(t, s, kind(api.DoRelease)), sends([]byte{5, 0, 0, 0, 0, 4, 0, 0, 0, 0}))
	gives(t, "example 3", s.Take([]byte{6, 0, 0, 0, 0, 4, 0, 0, 0, 0}), says(api.TellReleased), shuts())
	isIn(t, "example 3", s, api.ScuState{Sta: 1})
}
