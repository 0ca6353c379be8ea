package service_test

import (
	"testing"

	"modality/api"
)

// TestCancelRunning: ahead of its first answer, between, and ahead of its final one.
func TestCancelRunning(t *testing.T) {
	for ahead := range 3 {
		for _, context := range []uint8{1, 3, 5, 15, 23} {
			v, _, _ := served(t, scheduled("A", "B"))
			m := find(9)
			v.Take(m)
			turns(v, ahead)
			c := cancel(9)
			c.Context = context
			wants(t, "P15.7: the running one", v.Take(c), answer(m, 0xFE00))
			isIdle(t, "cancelled", v)
			wants(t, "P15.7: again", v.Take(c))
			wants(t, "P15.9: nothing runs", v.Turn())
			wants(t, "the Id is free", v.Take(echo(9)), answer(echo(9), 0))
		}
	}
}

// TestCancelOther: neither another Id, nor the C-CANCEL's own, nor one that was answered.
func TestCancelOther(t *testing.T) {
	v, _, _ := served(t, scheduled("A"))
	wants(t, "P15.7: nothing at all", v.Take(cancel(0)))
	m := find(9)
	v.Take(m)
	was := lookAt(v)
	c := cancel(8)
	c.Cmd.Id, c.Cmd.Class, c.Cmd.HasData, c.Data = 9, api.UIDWorklist, true, []byte{1}
	wants(t, "P15.7: To is looked at", v.Take(c))
	tells(t, "not cancelled", v, was)
	c.Cmd.To, c.Cmd.Id = 9, 8
	wants(t, "P15.7: To alone is looked at", v.Take(c), answer(m, 0xFE00))
	v.Take(m)
	turns(v, 2)
	wants(t, "P15.7: one that was answered", v.Take(cancel(9)))
	isIdle(t, "behind it", v)
}

// TestCancelWaiting: a C-FIND that waits answers when its time comes, and nothing else of it is looked at.
func TestCancelWaiting(t *testing.T) {
	v, _, _ := served(t, scheduled("A"))
	first := find(1)
	v.Take(first)
	late := []api.Message{ask(3, api.CFind, 2), findBy(3, 3, el(api.TagCharset, "X")), ask(1, api.CFind, 4), ask(15, api.CFind, 5), find(6), find(7)}
	late[0].Cmd.Class = "1.2"
	for _, m := range late {
		wants(t, "it waits", v.Take(m))
	}
	want := []api.Message{answer(first, 0)}
	for i, m := range late[:5] {
		held := v.Held()
		wants(t, "P15.7: it is marked", v.Take(cancel(m.Cmd.Id)))
		wants(t, "P15.7: it is marked already", v.Take(cancel(m.Cmd.Id)))
		tells(t, "marked", v, looks{Queue: 6, Running: true, Owed: 2 + (5-i)*257 + 1, Held: held})
		want = append(want, answer(m, 0xFE00))
	}
	v.Turn()
	wants(t, "P15.8: in their order", v.Turn(), want...)
	wants(t, "P15.8: the last was not marked", v.Turn(), match(late[5], "A", "Doe^Jane"))
	wants(t, "its end", v.Turn(), answer(late[5], 0))
	isIdle(t, "behind it", v)
}

// TestCancelKinds: of what waits a C-FIND alone is cancelled.
func TestCancelKinds(t *testing.T) {
	v, s, _ := served(t, scheduled("A"))
	first := find(1)
	v.Take(first)
	waits := []api.Message{echo(2), create(3, "1.9", plain("A")), set(4, "1.9", nil), get(7, 5, "1.9", api.TagModality), ask(3, api.CMove, 6), ask(3, api.CGet, 7)}
	for _, m := range waits {
		wants(t, "it waits", v.Take(m))
	}
	was := lookAt(v)
	for _, m := range waits {
		wants(t, "P15.7: no C-FIND", v.Take(cancel(m.Cmd.Id)))
		tells(t, "no C-FIND", v, was)
	}
	wants(t, "P15.7: what waits is begun", v.Take(cancel(1)), answer(first, 0xFE00), answer(waits[0], 0), answer(waits[1], 0), answer(waits[2], 0),
		withData(answer(waits[3], 0), el(api.TagModality, "CT")), answer(waits[4], 0x211), answer(waits[5], 0x211))
	if st := s.State(); len(st.Perfs) != 1 || st.Steps[0].Status != api.StepStarted {
		t.Errorf("P15.8: the state: %s", shown(st))
	}
}

// TestCancelNext: behind a cancelled query the next one runs, and what is behind that waits on.
func TestCancelNext(t *testing.T) {
	v, _, _ := served(t, scheduled("A", "B"))
	first, second, third := find(1), find(3), find(5)
	for _, m := range []api.Message{first, echo(2), second, echo(4), third, echo(6)} {
		v.Take(m)
	}
	v.Turn()
	wants(t, "P15.8: up to the next query", v.Take(cancel(1)), answer(first, 0xFE00), answer(echo(2), 0))
	if v.Queue() != 3 || !v.Running() || v.Owed() != 3+257+1 {
		t.Fatalf("P15.10: %+v", lookAt(v))
	}
	wants(t, "P15.2: 5: it runs now", v.Take(echo(3)), answer(echo(3), 0x210))
	wants(t, "P15.9: the second", v.Turn(), match(second, "A", "Doe^Jane"))
	wants(t, "P15.9: the second", v.Turn(), match(second, "B", "Doe^Jane"))
	wants(t, "P15.8: up to the third", v.Turn(), answer(second, 0), answer(echo(4), 0))
	wants(t, "P15.7: the third", v.Take(cancel(5)), answer(third, 0xFE00), answer(echo(6), 0))
	isIdle(t, "behind it", v)
}

// TestTurns: a turn puts out one answer, the final one too.
func TestTurns(t *testing.T) {
	v, _, _ := served(t, scheduled("A", "B", "C"))
	wants(t, "P15.9: nothing runs", v.Turn())
	v.Take(find(1))
	if got := statuses(turns(v, 10)); !same(got, []uint16{0xFF00, 0xFF00, 0xFF00, 0}) {
		t.Fatalf("P15.9: %x", got)
	}
	v.Take(find(1))
	for left := 4; left > 0; left-- {
		if v.Owed() != left || !v.Running() {
			t.Fatalf("P15.10: owed %d, not %d", v.Owed(), left)
		}
		if d := v.Turn(); len(d.Send) != 1 {
			t.Fatalf("P15.9: %s", shown(d))
		}
	}
	isIdle(t, "behind its turns", v)
}
