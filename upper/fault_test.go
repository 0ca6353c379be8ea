package upper_test

import (
	"bytes"
	"slices"
	"testing"

	"modality/api"
	"modality/upper"
)

// TestFaults: each refusal is a new fault, so that nobody can change another's.
func TestFaults(t *testing.T) {
	seen := map[*api.Fault]bool{}
	for _, artim := range []int{0, 0, -1, 1001, 1001} {
		_, err := upper.New(artim)
		f, ok := err.(*api.Fault)
		if !ok || seen[f] || !is(err, api.ErrUpperArtim, 0) {
			t.Fatalf("DOC.md, Errors: New(%d): %v", artim, err)
		}
		seen[f] = true
		f.Layer, f.At, f.Err = "changed", -1, nil
	}
}

// TestPlain: a provider that New did not make does nothing and is nothing, whatever happens to it.
func TestPlain(t *testing.T) {
	var none *upper.Provider
	plain := &upper.Provider{}
	for _, p := range []*upper.Provider{none, plain} {
		for _, e := range events() {
			if acts := p.Do(e); acts != nil {
				t.Fatalf("DOC.md, What holds everywhere: %s: %s", shown(e), shown(acts))
			}
			if s := p.State(); s != (api.UpperState{}) {
				t.Fatalf("DOC.md, What holds everywhere: %s: %+v", shown(e), s)
			}
		}
	}
}

// TestOneAnswer: two providers that were told the same are the same, and do not know of each other.
func TestOneAnswer(t *testing.T) {
	for to := range ways() {
		for _, e := range events() {
			p, q := reach(t, 3, to), reach(t, 3, to)
			other := q.State()
			first := p.Do(e)
			if q.State() != other {
				t.Fatalf("DOC.md, One answer: %+v, %s changes another provider", to, shown(e))
			}
			if second := q.Do(e); !same(first, second) || p.State() != q.State() {
				t.Fatalf("DOC.md, One answer: %+v, %s: %s and %s", to, shown(e), shown(first), shown(second))
			}
		}
	}
}

// roomy is a PDU whose every list has spare room, filled with what must stay.
func roomy(p api.Pdu) api.Pdu {
	p = clone(p)
	for i := range p.Assoc.Contexts {
		c := &p.Assoc.Contexts[i]
		c.Syntaxes = append(c.Syntaxes, "9", "9")[:len(c.Syntaxes)]
	}
	p.Assoc.Contexts = append(p.Assoc.Contexts, api.PresContext{Id: 9})[:len(p.Assoc.Contexts)]
	u := &p.Assoc.User
	for i := range u.Others {
		u.Others[i].Data = append(u.Others[i].Data, 9, 9)[:len(u.Others[i].Data)]
	}
	u.Roles = append(u.Roles, api.Role{Class: "9"})[:len(u.Roles)]
	u.Others = append(u.Others, api.UserItem{Type: 9})[:len(u.Others)]
	for i := range p.Values {
		p.Values[i].Data = append(p.Values[i].Data, 9, 9)[:len(p.Values[i].Data)]
	}
	p.Values = append(p.Values, api.Pdv{Context: 9})[:len(p.Values)]
	return p
}

// stretched is a PDU whose lists are told with their spare room.
func stretched(p api.Pdu) api.Pdu {
	p.Assoc.Contexts = slices.Clone(p.Assoc.Contexts[:cap(p.Assoc.Contexts)])
	for i, c := range p.Assoc.Contexts {
		p.Assoc.Contexts[i].Syntaxes = slices.Clone(c.Syntaxes[:cap(c.Syntaxes)])
	}
	u := &p.Assoc.User
	u.Roles = slices.Clone(u.Roles[:cap(u.Roles)])
	u.Others = slices.Clone(u.Others[:cap(u.Others)])
	for i, o := range u.Others {
		u.Others[i].Data = bytes.Clone(o.Data[:cap(o.Data)])
	}
	p.Values = slices.Clone(p.Values[:cap(p.Values)])
	for i, v := range p.Values {
		p.Values[i].Data = bytes.Clone(v.Data[:cap(v.Data)])
	}
	return p
}

// spoil overwrites all lists of a PDU, their spare room included.
func spoil(p api.Pdu) {
	for _, v := range p.Values {
		overwrite(v.Data, 0xEE)
	}
	for _, o := range p.Assoc.User.Others {
		overwrite(o.Data, 0xEE)
	}
	for _, c := range p.Assoc.Contexts {
		overwrite(c.Syntaxes, "spoilt")
	}
	overwrite(p.Values, api.Pdv{Context: 0xEE})
	overwrite(p.Assoc.User.Others, api.UserItem{Type: 0xEE})
	overwrite(p.Assoc.User.Roles, api.Role{Class: "spoilt"})
	overwrite(p.Assoc.Contexts, api.PresContext{Class: "spoilt"})
}

func overwrite[T any](list []T, with T) {
	list = list[:cap(list)]
	for i := range list {
		list[i] = with
	}
}

// carried is each kind of event that brings a PDU which goes out or is told, and where.
func carried() map[int]place {
	return map[int]place{
		api.EvAcPdu: {5, true}, api.EvRjPdu: {5, true}, api.EvRqPdu: {2, false}, api.EvAccept: {3, false}, api.EvReject: {3, false},
		api.EvData: {6, true}, api.EvDataPdu: {7, false}, api.EvAbortPdu: {6, false},
	}
}

// TestDoMemory: an event stays as it is, what is done with its PDU is new memory, and nothing of it is kept.
func TestDoMemory(t *testing.T) {
	for kind, to := range carried() {
		want := clone(whole(kindOf(kind), 5))
		e := api.UpperEvent{Kind: kind, Pdu: roomy(want)}
		before := stretched(e.Pdu)
		first, second := reach(t, 2, to).Do(e), reach(t, 2, to).Do(e)
		wantApart(t, first, second, e.Pdu, before, want)
	}
	want := clone(whole(api.PduRJ, 6))
	e := bad()
	e.Answer = roomy(want)
	before := stretched(e.Answer)
	first, second := reach(t, 2, place{2, false}).Do(e), reach(t, 2, place{2, false}).Do(e)
	wantApart(t, first, second, e.Answer, before, want)
}

// wantApart fails if two answers and the PDU that they were made of share memory.
func wantApart(t *testing.T, first, second []api.UpperAct, given, before, want api.Pdu) {
	t.Helper()
	if len(first) == 0 || len(second) == 0 || !same(first[0].Pdu, want) || !same(stretched(given), before) {
		t.Fatalf("P9.5: %s, %s; want %s, with %s left as it is", shown(first), shown(second), shown(want), shown(given))
	}
	spoil(first[0].Pdu)
	overwrite(first, api.UpperAct{Kind: -1})
	if !same(second[0].Pdu, want) || !same(stretched(given), before) {
		t.Errorf("DOC.md, Memory: an answer shares memory with %s or %s", shown(second), shown(given))
	}
	spoil(given)
	if !same(second[0].Pdu, want) {
		t.Errorf("DOC.md, Memory: an answer hangs on what was given: %s", shown(second))
	}
}

// TestKeptMemory: the request that is kept is a copy, and what goes out is one too.
func TestKeptMemory(t *testing.T) {
	want := clone(whole(api.PduRQ, 5))
	given := roomy(want)
	before := stretched(given)
	p := begin(t, 2)
	p.Do(api.UpperEvent{Kind: api.EvAssociate, Pdu: given})
	if !same(stretched(given), before) {
		t.Errorf("DOC.md, Memory: EvAssociate changes its PDU: %s", shown(given))
	}
	spoil(given)
	twin := *p
	first, second := p.Do(good(api.EvConnected)), twin.Do(good(api.EvConnected))
	if len(first) != 1 || !same(first[0].Pdu, want) {
		t.Fatalf("DOC.md, Memory: the request that was kept goes out as %s", shown(first))
	}
	spoil(first[0].Pdu)
	if !same(second[0].Pdu, want) {
		t.Errorf("DOC.md, Memory: two answers share memory: %s", shown(second))
	}
}

// TestEmpty: lists without an element, nil or not, come out as nil.
func TestEmpty(t *testing.T) {
	for kind, to := range carried() {
		given := api.Pdu{Kind: kindOf(kind), Values: []api.Pdv{}}
		given.Assoc.Contexts = []api.PresContext{}
		given.Assoc.User.Roles, given.Assoc.User.Others = []api.Role{}, []api.UserItem{}
		if acts := reach(t, 2, to).Do(api.UpperEvent{Kind: kind, Pdu: given}); !same(acts[0].Pdu, api.Pdu{Kind: given.Kind}) {
			t.Errorf("DOC.md, nil and empty: %s", shown(acts))
		}
		given.Values = []api.Pdv{{Data: []byte{}}}
		given.Assoc.Contexts = []api.PresContext{{Syntaxes: []string{}}}
		given.Assoc.User.Others = []api.UserItem{{Data: []byte{}}}
		if acts := reach(t, 2, to).Do(api.UpperEvent{Kind: kind, Pdu: given}); !same(acts[0].Pdu, clone(given)) {
			t.Errorf("DOC.md, nil and empty: %s", shown(acts))
		}
	}
}

// TestNegotiateMemory: a request and a configuration stay as they are, and two answers share nothing.
func TestNegotiateMemory(t *testing.T) {
	rq := asking()
	rq.Assoc.Contexts = append(rq.Assoc.Contexts,
		api.PresContext{Id: 3, Class: api.UIDPerform, Syntaxes: []string{api.UIDExplicit, "1.2"}},
		api.PresContext{Id: 5, Class: "1.2", Syntaxes: []string{"1.2"}},
		api.PresContext{Id: 7, Class: api.UIDWorklist, Syntaxes: []string{api.UIDImplicit}})
	rq = roomy(rq)
	c := server()
	c.Callers = append(c.Callers, "SPARE", "SPARE")[:2]
	before, callers := stretched(rq), slices.Clone(c.Callers[:cap(c.Callers)])
	first, second, want := negotiate(rq, c, 0), negotiate(rq, c, 0), negotiate(clone(rq), server(), 0)
	if !first.ok || !same(first, second) || !same(stretched(rq), before) || !slices.Equal(c.Callers[:cap(c.Callers)], callers) {
		t.Fatalf("DOC.md, Memory: %s from %s, %+v", shown(first), shown(rq), c)
	}
	for i := range first.ac.Assoc.Contexts {
		if got := first.ac.Assoc.Contexts[i]; got.Result == 0 {
			overwrite(got.Syntaxes, "spoilt")
		}
		if !same(second, want) || !same(stretched(rq), before) || !same(first.contexts, want.contexts) {
			t.Errorf("DOC.md, Memory: the syntaxes of an answer are shared: %s", shown(second))
		}
		for j, got := range first.ac.Assoc.Contexts[i+1:] {
			if !same(got, want.ac.Assoc.Contexts[i+1+j]) {
				t.Errorf("DOC.md, Memory: two lists of an answer share memory: %s", shown(first))
			}
		}
	}
	overwrite(first.contexts, api.Context{Id: 99})
	overwrite(first.ac.Assoc.Contexts, api.PresContext{Id: 99})
	if !same(second, want) || !same(stretched(rq), before) {
		t.Errorf("DOC.md, Memory: an answer is shared: %s", shown(second))
	}
}
