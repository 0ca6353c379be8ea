package broker_test

import (
	"testing"

	"modality/api"
	"modality/broker"
)

// exampleRQ is the request of the document's second example.
func exampleRQ() []byte {
	return laid(api.Pdu{Kind: api.PduRQ, Assoc: api.Associate{Version: 1, Called: "MWL", Calling: "CT1", App: api.UIDContext, User: api.UserInfo{HasMax: true, MaxLength: 64},
		Contexts: []api.PresContext{{Id: 1, Class: api.UIDVerify, Syntaxes: []string{api.UIDImplicit}}}}})
}

// exampleTwo is a server behind the document's second example's association.
func exampleTwo(t *testing.T) *broker.Broker {
	t.Helper()
	b := begun(t, config(), fresh())
	do(t, b, link(0))
	if outs := do(t, b, data(0, exampleRQ())); len(outs) != 1 || outs[0].Kind != api.OSend || outs[0].Line != 0 || outs[0].Data[0] != 2 {
		t.Fatalf("example 2: %s", shown(outs))
	}
	return b
}

func TestExampleOne(t *testing.T) {
	b := begun(t, config(), fresh())
	gives(t, "example 1", b, link(0))
	isIn(t, "example 1", b, 0, 2)
	gives(t, "example 1", b, tick(3), shuts(0))
	isIn(t, "example 1", b, 0, 1)
}

func TestExampleTwo(t *testing.T) {
	b := exampleTwo(t)
	outs := do(t, b, data(0, said(echo(7))))
	if len(outs) != 2 || len(outs[0].Data) != 70 {
		t.Fatalf("example 2: %s", shown(outs))
	}
	if got := heard(t, 0, outs); len(got) != 1 || !same(got[0], answer(echo(7), 0)) {
		t.Fatalf("example 2: %s", shown(got))
	}
	bytes := said(echo(7))
	for i := range bytes {
		var want []api.Out
		if i == len(bytes)-1 {
			want = outs
		}
		gives(t, "example 2: chunks of one", b, data(0, bytes[i:i+1]), want...)
	}
}

func TestExampleThree(t *testing.T) {
	b := exampleTwo(t)
	gives(t, "example 3", b, data(0, []byte{5, 0, 0, 0, 0, 4, 0, 0, 0, 0}), sends(0, []byte{6, 0, 0, 0, 0, 4, 0, 0, 0, 0})...)
	isIn(t, "example 3", b, 0, 13)
	gives(t, "example 3", b, drop(0))
	isIdle(t, "example 3", b, 0)
}

func TestExampleFour(t *testing.T) {
	b := exampleTwo(t)
	gives(t, "example 4", b, data(0, []byte{4, 0, 0, 0, 0, 6, 0, 0, 0, 2, 3, 3}), sends(0, []byte{7, 0, 0, 0, 0, 4, 0, 0, 0, 0})...)
	do(t, b, link(7))
	gives(t, "example 4", b, data(7, []byte{9, 1, 2, 3, 4, 5}), sends(7, []byte{7, 0, 0, 0, 0, 4, 0, 0, 0, 0})...)
}

func TestExampleFive(t *testing.T) {
	b := begun(t, config(), fresh())
	for n, kind := range []byte{2, 2, 3} {
		do(t, b, link(n))
		outs := do(t, b, data(n, exampleRQ()))
		if len(outs) != 1 || outs[0].Data[0] != kind {
			t.Fatalf("example 5: line %d: %s", n, shown(outs))
		}
		if kind == 3 && !same(outs, sends(n, rejecting(2, 3, 2))) {
			t.Fatalf("example 5: %s", shown(outs))
		}
	}
}

func TestExampleSix(t *testing.T) {
	b := exampleTwo(t)
	gives(t, "example 6", b, power(none()), downs())
	isIn(t, "example 6", b, 0, 1)
	gives(t, "example 6", b, link(0))
	isIdle(t, "example 6", b, 0)
	gives(t, "example 6", b, start(), ups())
}
