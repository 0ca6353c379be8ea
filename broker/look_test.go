package broker_test

import (
	"testing"

	"modality/api"
	"modality/dataset"
	"modality/disk"
	"modality/store"
)

// TestLine: what is told of a line in each state, with or without an association.
func TestLine(t *testing.T) {
	b := over(t, scheduled("A", "B"))
	tells := func(what string, want api.LineLook) {
		t.Helper()
		if got := b.Line(5); !same(got, want) {
			t.Fatalf("P16.9: %s: %s, not %s", what, shown(got), shown(want))
		}
		if b.Held(5) != want.Held || b.Owed(5) != want.Owed {
			t.Fatalf("P16.9: %s: held %d, owed %d", what, b.Held(5), b.Owed(5))
		}
	}
	tells("idle", api.LineLook{Sta: 1})
	do(t, b, link(5))
	tells("linked", api.LineLook{Sta: 2})
	rq := laid(asking(100))
	do(t, b, data(5, rq[:77]))
	tells("half a request", api.LineLook{Sta: 2, Held: 77})
	do(t, b, data(5, rq[77:]))
	want := api.LineLook{Sta: 6, Contexts: agreed(), Most: 100}
	tells("an association", want)
	parts := fragments(create(1, "1.9", plain("A")), 40)
	do(t, b, data(5, dataPdu(parts[0])))
	want.Held = 40
	tells("a fragment of a command", want)
	do(t, b, data(5, dataPdu(parts[1])[:20]))
	want.Held = 60
	tells("and a beginning of a PDU", want)
	do(t, b, data(5, dataPdu(parts[1])[20:], dataPdu(parts[2]), dataPdu(parts[3])))
	want.Held = len(parts[0].Data) + len(parts[1].Data) + len(parts[2].Data) + len(parts[3].Data)
	tells("a command and a fragment of its data", want)
	for _, v := range parts[4:] {
		do(t, b, data(5, dataPdu(v)))
	}
	want.Held = 0
	tells("a whole message", want)
	do(t, b, data(5, said(find(2))))
	size, err := dataset.Size(list(el(api.TagPatientName, "Doe^Jane"), seq(api.TagSteps, holding(el(api.TagStepID, "A")))), api.Implicit)
	if err != nil {
		t.Fatal(err)
	}
	want.Query, want.Owed, want.Held = true, 3, 2*size
	tells("a query", want)
	waits := find(3)
	do(t, b, data(5, said(waits, echo(4)), []byte{4, 0}))
	want.Queue, want.Owed, want.Held = 2, 3+257+1, 2*size+4096+len(waits.Data)+4096+2
	tells("two that wait", want)
	do(t, b, turn(1))
	want.Owed, want.Held = want.Owed-1, want.Held-size
	tells("a turn", want)
	do(t, b, drop(5), link(5), data(5, laid(asking(100)), said(find(2)), releaseRQ()))
	tells("leaving", api.LineLook{Sta: 8, Leaving: true, Contexts: agreed(), Most: 100, Query: true, Held: 2 * size, Owed: 3})
	do(t, b, turn(3), data(5, []byte{5, 0, 0}))
	tells("released", api.LineLook{Sta: 13, Held: 3})
	do(t, b, data(5, []byte{0, 0, 4, 0, 0, 0, 0}))
	tells("released", api.LineLook{Sta: 13})
	do(t, b, drop(5))
	tells("gone", api.LineLook{Sta: 1})
}

// TestNoLine: a number that is no line tells of an idle one.
func TestNoLine(t *testing.T) {
	b := over(t, scheduled("A"))
	for n := range 16 {
		do(t, b, link(n), data(n, []byte{1}))
	}
	for _, n := range []int{-1, 16, 17, 1 << 62, -1 << 62} {
		if !same(b.Line(n), api.LineLook{Sta: 1}) || b.Held(n) != 0 || b.Owed(n) != 0 {
			t.Errorf("P16.9: line %d: %s", n, shown(b.Line(n)))
		}
	}
}

// TestLooking: looking changes nothing, and tells what the layers below tell.
func TestLooking(t *testing.T) {
	b := busyServer(t)
	was := lookAll(b)
	for range 3 {
		if got := lookAll(b); !same(got, was) {
			t.Fatalf("P16.9: looking changed %s into %s", shown(was), shown(got))
		}
	}
	img := b.Disk()
	d, err := disk.Load(img)
	if err != nil {
		t.Fatal(err)
	}
	s, err := store.Open(d, 10)
	if err != nil || !same(s.State(), b.State()) {
		t.Errorf("P16.9: the disk has %s, the server %s", shown(s.State()), shown(b.State()))
	}
	do(t, b, power(none()))
	if !same(b.State(), api.State{}) || b.Up() {
		t.Error("P16.9: the state of a server that is down")
	}
	if got := b.Disk(); len(got.Nodes) != len(img.Nodes) || got.Next != img.Next {
		t.Errorf("P16.9: the disk of a server that is down: %s", shown(got))
	}
}
