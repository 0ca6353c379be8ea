package service_test

import (
	"testing"

	"modality/api"
	"modality/service"
	"modality/store"
)

// isOver: a service behind Off.
func isOver(t *testing.T, v *service.Service) {
	t.Helper()
	for _, m := range []api.Message{echo(1), find(2), cancel(1), create(3, "1.8", plain("A")), ask(99, api.CEcho, 1), ask(1, 0x8030, 1), {}} {
		isOff(t, "P15.8: Take behind Off", v.Take(m))
		isOff(t, "P15.8: Turn behind Off", v.Turn())
		isIdle(t, "P15.8: behind Off", v)
	}
}

// TestOff: the power goes with a request's write.
func TestOff(t *testing.T) {
	v, s, d := served(t, scheduled("A", "B"))
	d.Fuse(0)
	wants(t, "an echo writes nothing", v.Take(echo(1)), answer(echo(1), 0))
	m := create(2, "1.9", nil)
	if got := v.Take(m); len(got.Send) != 1 || got.Send[0].Cmd.Status != 0x120 || got.Off {
		t.Fatalf("P15.5: what is refused writes nothing: %s", shown(got))
	}
	isOff(t, "P15.5: the power went", v.Take(create(2, "1.9", plain("A"))))
	stateIs(t, "P15.5: the power went", s, scheduled("A", "B"))
	isOver(t, v)
}

// TestOffSet: with an N-SET too.
func TestOffSet(t *testing.T) {
	v, s, d := served(t, performing(plain("A")))
	d.Fuse(1)
	isOff(t, "P15.5: the power went", v.Take(set(1, "1.9", finish("COMPLETED"))))
	stateIs(t, "P15.5: the power went", s, performing(plain("A")))
	isOver(t, v)
}

// TestOffWrites: at each write of a request the power may go; behind the last it is answered.
func TestOffWrites(t *testing.T) {
	off := 0
	for writes := 0; ; writes++ {
		v, s, d := served(t, scheduled("A", "B"))
		d.Fuse(writes)
		m := create(1, "1.9", plain("A"))
		got := v.Take(m)
		if got.Off {
			off++
			isOff(t, "P15.5", got)
			isOver(t, v)
			stateIs(t, "P15.5", s, scheduled("A", "B"))
			continue
		}
		wants(t, "P15.5", got, answer(m, 0))
		stateIs(t, "P15.5", s, performing(plain("A")))
		break
	}
	if off != 2 {
		t.Errorf("P15.5: the power went at %d writes, not at the append's and the sync's", off)
	}
}

// TestOffBehind: what was answered ahead stays answered; what waits behind is let go.
func TestOffBehind(t *testing.T) {
	for _, cancelled := range []bool{false, true} {
		v, s, d := served(t, scheduled("A"))
		first := find(1)
		v.Take(first)
		late := findBy(3, 6, el(api.TagCharset, "X"))
		for _, m := range []api.Message{echo(2), late, create(3, "1.9", plain("A")), echo(4), find(5), create(7, "1.8", plain("A"))} {
			wants(t, "it waits", v.Take(m))
		}
		d.Fuse(0)
		wants(t, "a query writes nothing", v.Turn(), match(first, "A", "Doe^Jane"))
		if cancelled {
			isOff(t, "P15.8: behind FE00H", v.Take(cancel(1)), answer(first, 0xFE00), answer(echo(2), 0), answer(late, 0xA900, api.TagCharset))
		} else {
			isOff(t, "P15.8: behind a final answer", v.Turn(), answer(first, 0), answer(echo(2), 0), answer(late, 0xA900, api.TagCharset))
		}
		stateIs(t, "P15.8", s, scheduled("A"))
		isOver(t, v)
	}
}

// TestOffStore: a store that went off with another service is off for this one, as soon as it writes.
func TestOffStore(t *testing.T) {
	v, s, d := served(t, scheduled("A"))
	w := newOver(s)
	m := find(1)
	w.Take(m)
	d.Fuse(0)
	isOff(t, "the one", v.Take(create(1, "1.9", plain("A"))))
	wants(t, "the other: its query", w.Turn(), match(m, "A", "Doe^Jane"))
	wants(t, "the other: its query", w.Turn(), answer(m, 0))
	wants(t, "the other: an echo", w.Take(echo(2)), answer(echo(2), 0))
	isOff(t, "the other", w.Take(create(3, "1.8", plain("A"))))
	isOver(t, w)
	isOver(t, v)
}

// TestOffStart: behind a cut and a start a new service goes on.
func TestOffStart(t *testing.T) {
	v, _, d := served(t, scheduled("A", "B"))
	d.Fuse(0)
	isOff(t, "the power went", v.Take(create(1, "1.9", plain("A"))))
	d.Cut(api.PowerCut{})
	s, err := store.Open(d, 10)
	if err != nil {
		t.Fatal(err)
	}
	isOver(t, v)
	v = newOver(s)
	m := create(1, "1.9", plain("A"))
	wants(t, "a new one", v.Take(m), answer(m, 0))
	stateIs(t, "a new one", s, performing(plain("A")))
}
