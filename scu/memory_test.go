package scu_test

import (
	"cmp"
	"runtime"
	"slices"
	"testing"
	"unsafe"

	"modality/api"
	"modality/scu"
)

// What is handed in has spare room with something in it; what is handed out is written over, spare room included.

func roomy[T any](list []T, room T) []T {
	return append(slices.Clone(list), room)[:len(list)]
}

// roomKept tells whether a list and the room behind it are as they were.
func roomKept[T any](list, was []T, room T) bool {
	return same(append([]T(nil), list...), append([]T(nil), was...)) && same(list[:len(list)+1][len(list)], room)
}

func smear[T any](list []T, with T) {
	for i := range list[:cap(list)] {
		list[:cap(list)][i] = with
	}
}

// lists gives a function for each list of an answer that writes it over, the innermost first.
func lists(outs []api.ScuOut) []func() {
	var all []func()
	for _, o := range outs {
		all = append(all, func() { smear(o.Data, 0xEE) })
		for _, v := range o.Pdu.Values {
			all = append(all, func() { smear(v.Data, 0xEE) })
		}
		all = append(all, func() { smear(o.Pdu.Values, api.Pdv{Context: 99}) })
		for _, c := range o.Pdu.Assoc.Contexts {
			all = append(all, func() { smear(c.Syntaxes, "smeared") })
		}
		all = append(all, func() { smear(o.Pdu.Assoc.Contexts, api.PresContext{Id: 99}) })
		for _, u := range o.Pdu.Assoc.User.Others {
			all = append(all, func() { smear(u.Data, 0xEE) })
		}
		all = append(all, func() { smear(o.Pdu.Assoc.User.Others, api.UserItem{Type: 99}) })
		all = append(all, func() { smear(o.Pdu.Assoc.User.Roles, api.Role{Class: "smeared"}) })
		all = append(all, func() { smear(o.Answer.Offending, 99) })
		all = append(all, func() { smear(o.Answer.Nodes, api.Node{Value: "smeared"}) })
	}
	return append(all, func() { smear(outs, api.ScuOut{Kind: 99}) })
}

func smearState(st api.ScuState) {
	smear(st.Contexts, api.Context{Id: 1, Class: "smeared"})
	smear(st.Waiting, 99)
}

// someSteps are calls of a scanner of wideConfig that bring and give lists of every kind.
func someSteps() []step {
	ac := accepting(agreed(), 64)
	ac.Assoc.User.Roles = []api.Role{{Class: "1.2", Scu: 1}}
	ac.Assoc.User.Others = []api.UserItem{{Type: 0x60, Data: []byte{1, 2}}, {Type: 0x61, Data: []byte{3}}}
	pending := withData(answer(3, 0x20, 2, 0xFF00), name("X"), el(api.TagPatientID, "7"))
	final := withData(answer(5, 0x140, 3, 0x120), name("Y"))
	final.Cmd.Offending = []api.Tag{1, 2, 3}
	b := said(pending, final, pending)
	steps := []step{doing(kind(api.DoConnect)), calling("opened"), taking(laid(ac)[:50]), taking(laid(ac)[50:])}
	for _, d := range requests() {
		steps = append(steps, doing(d))
	}
	steps = append(steps, taking(b[:30]), taking(b[30:140]), taking(b[140:]), doing(find(2)), doing(find(9, name("Ä"))), taking(b[:70]), doing(echo(70)), taking(b[70:]))
	return append(steps, doing(kind(api.DoConnect)), doing(ticks(3)), calling("closed"), doing(kind(api.DoConnect)), calling("opened"), taking(laid(rejecting())), doing(kind(api.DoConnect)), calling("opened"))
}

// handed is a step whose lists have spare room.
func handed(x step) step {
	x.bytes = roomy(x.bytes, 0x77)
	x.do.Nodes = roomy(x.do.Nodes, api.Node{Value: "spare"})
	x.do.Attrs = roomy(x.do.Attrs, 77)
	return x
}

func isKept(x, was step) bool {
	return roomKept(x.bytes, was.bytes, 0x77) && roomKept(x.do.Nodes, was.do.Nodes, api.Node{Value: "spare"}) && roomKept(x.do.Attrs, was.do.Attrs, 77)
}

// TestMemory: a scanner that is handed lists with spare room, which are then written over, and whose answers are written over, does as the model.
func TestMemory(t *testing.T) {
	c := wideConfig()
	c.Classes = roomy(c.Classes, "spare")
	c.Syntaxes = roomy(c.Syntaxes, 77)
	s := fresh(t, c)
	if !roomKept(c.Classes, wideConfig().Classes, "spare") || !roomKept(c.Syntaxes, wideConfig().Syntaxes, 77) {
		t.Error("DOC.md, Memory: New has changed what it was handed")
	}
	smear(c.Classes, "smeared")
	smear(c.Syntaxes, 77)
	m := newModel(wideConfig())
	var kept, wanted [][]api.ScuOut
	for i, x := range someSteps() {
		h := handed(x)
		want, wrong := m.step(x)
		outs, err := h.on(s)
		if !same(outs, want) || !same(err, wrong) {
			t.Fatalf("DOC.md, Memory: step %d: %s, %v; want %s, %v", i, shown(outs), err, shown(want), wrong)
		}
		if !isKept(h, x) {
			t.Fatalf("DOC.md, Memory: step %d has changed what it was handed", i)
		}
		smear(h.bytes, 0xEE)
		smear(h.do.Nodes, api.Node{Value: "smeared"})
		smear(h.do.Attrs, 99)
		kept, wanted = append(kept, outs), append(wanted, want)
		if !same(kept, wanted) {
			t.Fatalf("DOC.md, Memory: step %d has changed an earlier answer", i)
		}
		if i%3 == 0 {
			for _, outs := range kept {
				for _, write := range lists(outs) {
					write()
				}
			}
			kept, wanted = nil, nil
		}
		smearState(s.State())
		isIn(t, "DOC.md, Memory", s, m.state())
	}
	if m.sta != 5 {
		t.Fatalf("the test's own steps lead to Sta%d", m.sta)
	}
}

// span is where a list lies, its spare room included.
type span struct{ from, to uintptr }

func spanOf[T any](list []T) span {
	var one T
	from := uintptr(unsafe.Pointer(unsafe.SliceData(list)))
	return span{from, from + uintptr(cap(list))*unsafe.Sizeof(one)}
}

func spansOf(outs []api.ScuOut) []span {
	all := []span{spanOf(outs)}
	for _, o := range outs {
		a := o.Pdu.Assoc
		all = append(all, spanOf(o.Data), spanOf(o.Pdu.Values), spanOf(a.Contexts), spanOf(a.User.Roles), spanOf(a.User.Others), spanOf(o.Answer.Offending), spanOf(o.Answer.Nodes))
		for _, c := range a.Contexts {
			all = append(all, spanOf(c.Syntaxes))
		}
		for _, u := range a.User.Others {
			all = append(all, spanOf(u.Data))
		}
	}
	return all
}

// TestMemoryApart: no two lists that a scanner is handed or hands out share memory, as long as all of them live.
func TestMemoryApart(t *testing.T) {
	s := fresh(t, wideConfig())
	var all []span
	var alive []any
	for _, x := range someSteps() {
		x = handed(x)
		outs, _ := x.on(s)
		st := s.State()
		alive = append(alive, x, outs, st)
		all = append(all, spanOf(x.bytes), spanOf(x.do.Nodes), spanOf(x.do.Attrs), spanOf(st.Contexts), spanOf(st.Waiting))
		all = append(all, spansOf(outs)...)
	}
	all = slices.DeleteFunc(all, func(p span) bool { return p.from == p.to })
	slices.SortFunc(all, func(a, b span) int { return cmp.Compare(a.from, b.from) })
	for i := range all[1:] {
		if all[i].to > all[i+1].from {
			t.Fatalf("DOC.md, Memory: two lists share memory: %v", all[i:i+2])
		}
	}
	if len(all) < 100 {
		t.Errorf("the test's steps have %d lists", len(all))
	}
	runtime.KeepAlive(alive)
}

// TestZero: a scanner that New did not give (DOC.md; the chapter's head).
func TestZero(t *testing.T) {
	var none *scu.Scanner
	for _, s := range []*scu.Scanner{none, {}} {
		for k := -1; k < 13; k++ {
			for _, d := range []api.ScuDo{{Kind: k}, {Kind: k, Count: -1, Id: 7, UID: "1.2", Nodes: list(name("X"))}} {
				if outs, err := s.Do(d); outs != nil || !isFault(err, 0, api.ErrZero) {
					t.Errorf("DOC.md: Do of no scanner: %s, %v", shown(outs), err)
				}
			}
		}
		gives(t, "DOC.md: no scanner", s.Opened())
		gives(t, "DOC.md: no scanner", s.Take(nil))
		gives(t, "DOC.md: no scanner", s.Take(laid(accepting(agreed(), 64))))
		gives(t, "DOC.md: no scanner", s.Closed())
		isIn(t, "DOC.md: no scanner", s, api.ScuState{})
	}
}

// TestFaults: each refusal is a new fault, so that nobody can change another's.
func TestFaults(t *testing.T) {
	seen := map[*api.Fault]bool{}
	note := func(err error) {
		t.Helper()
		for {
			f, ok := err.(*api.Fault)
			if !ok {
				return
			}
			if seen[f] {
				t.Fatalf("DOC.md, Errors: an old fault: %v", f)
			}
			seen[f] = true
			err = f.Err
			f.Layer, f.At, f.Err = "changed", -1, nil
		}
	}
	for range 2 {
		_, err := scu.New(api.ScuConfig{})
		note(err)
		s := reach(t, 6)
		for _, d := range []api.ScuDo{kind(0), kind(api.DoConnect), ticks(-1), echo(90), cancel(5), find(1, name("X"), name("X")), create(1, "x"), {Kind: api.DoFind, Charset: "x"}, find(1, filled(t, 70000, api.Implicit)...)} {
			outs, err := s.Do(d)
			if outs != nil || err == nil {
				t.Fatalf("P17.2: %s: %v", shown(d), err)
			}
			note(err)
		}
		_, err = (*scu.Scanner)(nil).Do(kind(1))
		note(err)
	}
}

// TestApart: two scanners know nothing of each other.
func TestApart(t *testing.T) {
	a, b := reach(t, 6), reach(t, 6)
	do(t, a, echo(1))
	isIn(t, "DOC.md, One answer", b, resting(6))
	a.Take(unknownPdu())
	isIn(t, "DOC.md, One answer", b, resting(6))
	gives(t, "DOC.md, One answer", b.Take(said(answer(1, 0x30, 90, 0))), answers(api.ScuReply{Id: 90, Field: 0x30}))
}
