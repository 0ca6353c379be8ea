package broker_test

import (
	"slices"
	"strings"
	"testing"

	"modality/api"
	"modality/broker"
)

// TestAnswers: every kind of request is answered at once, as layer 15 says, on its own line.
func TestAnswers(t *testing.T) {
	b := over(t, scheduled("A"))
	associate(t, b, 4, 0)
	associate(t, b, 9, 0)
	d := plain("A")
	wrong := echo(1)
	wrong.Cmd.Class = api.UIDWorklist
	unread := find(1)
	unread.Data = []byte{1, 2, 3}
	for _, x := range []struct {
		m    api.Message
		want api.Message
	}{
		{echo(1), answer(echo(1), 0)},
		{wrong, answer(wrong, 0x122)},
		{ask(1, api.CFind, 2), answer(ask(1, api.CFind, 2), 0x211)},
		{ask(3, api.CFind, 3), answer(ask(3, api.CFind, 3), 0x212)},
		{unread, answer(unread, 0xA900)},
		{create(4, "1.9", d), answer(create(4, "1.9", d), 0)},
		{create(5, "1.9", d), answer(create(5, "1.9", d), 0x111)},
		{create(6, "", d), answer(create(6, "", d), 0x117)},
		{get(7, "1.9", api.TagDoneStatus), withData(answer(get(7, "1.9"), 0), el(api.TagDoneStatus, "IN PROGRESS"))},
		{get(8, "1.8"), answer(get(8, "1.8"), 0x112)},
		{set(9, "1.9", finish("COMPLETED")), answer(set(9, "1.9", d), 0)},
		{get(10, "1.9", api.TagDoneStatus), withData(answer(get(10, "1.9"), 0), el(api.TagDoneStatus, "COMPLETED"))},
	} {
		gives(t, "P16.5: at once", b, data(4, said(x.m)), answers(4, 16384, x.want)...)
		if b.Line(4).Sta != 6 || b.Owed(4) != 0 || b.Held(4) != 0 {
			t.Fatalf("P16.5: behind it: %s", shown(b.Line(4)))
		}
	}
	gives(t, "P16.5: the state is one", b, data(9, said(get(1, "1.9", api.TagDoneStatus))),
		answers(9, 16384, withData(answer(get(1, "1.9"), 0), el(api.TagDoneStatus, "COMPLETED")))...)
	if st := b.State(); len(st.Perfs) != 1 || st.Steps[0].Status != api.StepCompleted {
		t.Errorf("P16.9: %s", shown(st))
	}
}

// TestLength: an answer goes out in PDUs of at most the length that the other side asked for.
func TestLength(t *testing.T) {
	d := performed("A", "X^Y", strings.Repeat("c", 1000))
	for _, asked := range []uint32{0, 64, 65, 66, 67, 100, 1000, 16383, 16384, 16385, 1<<32 - 1} {
		most := int(asked)
		if asked == 0 || asked > 16384 {
			most = 16384
		}
		b := over(t, scheduled("A"))
		associate(t, b, 4, asked)
		m := get(2, "1.9", api.TagComments, api.TagModality)
		want := answers(4, most, answer(create(1, "1.9", d), 0), withData(answer(m, 0), el(api.TagModality, "CT"), el(api.TagComments, strings.Repeat("c", 1000))))
		outs := do(t, b, data(4, said(create(1, "1.9", d), m)))
		if !same(outs, want) {
			t.Errorf("P16.5: length %d: %s, not %s", asked, shown(outs), shown(want))
		}
		for _, o := range outs {
			if len(o.Data) > 6+most {
				t.Errorf("P16.5: length %d: a PDU of %d bytes", asked, len(o.Data))
			}
		}
	}
}

// TestWaiting: while a query runs requests wait; 0210H and FE00H alone go out ahead of what waits.
func TestWaiting(t *testing.T) {
	b := over(t, scheduled("A", "B"))
	associate(t, b, 4, 64)
	gives(t, "P16.5: a query", b, data(4, said(find(1))))
	gives(t, "P16.5: it waits", b, data(4, said(echo(2), create(3, "1.9", plain("A")), find(4), echo(5))))
	if got := b.Line(4); !got.Query || got.Queue != 4 || got.Owed != 3+257+1 {
		t.Fatalf("P16.9: %s", shown(got))
	}
	hasState(t, "nothing is begun", b, scheduled("A", "B"))
	gives(t, "P16.5: 0210H", b, data(4, said(echo(1), echo(3))), answers(4, 64, answer(echo(1), 0x210), answer(echo(3), 0x210))...)
	gives(t, "P16.5: a C-CANCEL of one that waits", b, data(4, said(cancel(4))))
	gives(t, "P16.5: a C-CANCEL of none", b, data(4, said(cancel(3), cancel(77))))
	gives(t, "P16.5: FE00H and what has waited", b, data(4, said(cancel(1))), answers(4, 64, answer(find(1), 0xFE00), answer(echo(2), 0),
		answer(create(3, "1.9", plain("A")), 0), answer(find(4), 0xFE00), answer(echo(5), 0))...)
	if got := b.Line(4); got.Query || got.Queue != 0 || got.Owed != 0 || got.Held != 0 {
		t.Fatalf("P16.9: %s", shown(got))
	}
	gives(t, "P16.6: nothing runs", b, turn(3))
}

// stuffed is a server whose compaction is due and was put off for want of room: it has so many records, and room for a base no more.
func stuffed(t *testing.T, line int) *broker.Broker {
	t.Helper()
	c := config()
	c.Compact = 3
	st := many(40) // its base has many blocks
	b := begun(t, c, diskOf(t, st).Image())
	if line >= 0 {
		associate(t, b, line, 64)
	}
	do(t, b, room(usedBy(t, b)+2))
	for i, id := range []string{"Z1", "Z2", "Z3"} {
		gives(t, "P16.8", b, fed(ordering("M"+id, api.OrderNew, row(id))), acks("M"+id, "AA", ""))
		records(t, "the test's journal", b, 1, i+1)
	}
	return b
}

// usedBy is how many blocks a server's disk uses.
func usedBy(t *testing.T, b *broker.Broker) int {
	t.Helper()
	used := 0
	for _, n := range b.Disk().Nodes {
		if len(n.Changes) > 0 {
			t.Fatal("the disk has changes that are not held")
		}
		used += max(1, (len(n.Held)+511)/512)
	}
	return used
}

// TestCompactBehindMessage: a compaction that was put off is tried again behind each message, also behind one without an answer or one that aborts; not behind a fragment that is none's last, nor behind one that layer 10 refuses.
func TestCompactBehindMessage(t *testing.T) {
	nine := []api.Message{find(1)}
	for id := range uint16(9) {
		nine = append(nine, echo(10+id))
	}
	for name, x := range map[string]struct {
		bytes []byte
		taken bool
	}{
		"an echo":                  {said(echo(1)), true},
		"a C-CANCEL of none":       {said(cancel(1)), true},
		"a query":                  {said(find(1)), true},
		"one that is refused":      {said(ask(3, api.CFind, 1)), true},
		"one that aborts":          {said(nine[9:]...), true},
		"a fragment":               {said(echo(1))[:40], false},
		"what layer 10 refuses":    {dataPdu(api.Pdv{Context: 1, Last: true}), false},
		"a release":                {releaseRQ(), false},
		"an abort":                 {aborting(0, 0), false},
		"an unknown PDU":           {unknownPdu(), false},
		"an A-ASSOCIATE-RQ":        {laid(asking(64)), false},
		"nothing":                  {nil, false},
		"a command without a data": {dataPdu(fragments(find(1), 16000)[0]), false},
	} {
		b := stuffed(t, 0)
		if name == "one that aborts" {
			do(t, b, data(0, said(nine[:9]...)))
		}
		records(t, "P16.5: put off", b, 1, 3)
		do(t, b, room(1000))
		records(t, "ARoom alone", b, 1, 3)
		do(t, b, data(0, x.bytes))
		if x.taken {
			records(t, "P16.5: behind "+name, b, 2, 0)
		} else {
			records(t, "P16.5: behind "+name, b, 1, 3)
		}
		if name == "one that aborts" {
			isIn(t, "P16.5: it aborts", b, 0, 13)
		}
	}
}

// TestCompactOffBehindMessage: a compaction that finds the power off takes it, behind the answer.
func TestCompactOffBehindMessage(t *testing.T) {
	for writes := range 5 {
		b := stuffed(t, 0)
		do(t, b, room(1000), fuse(writes, none()))
		gives(t, "P16.5: the power goes with the compaction", b, data(0, said(echo(1), echo(2))), slices.Concat(answers(0, 64, answer(echo(1), 0)), []api.Out{downs()})...)
		if b.Up() {
			t.Fatal("P16.7: it is up")
		}
		do(t, b, start())
		want := many(40)
		want.Steps = append(want.Steps, row("Z1"), row("Z2"), row("Z3"))
		want.Control = "MZ3"
		hasState(t, "P16.7: behind the start", b, want)
	}
	b := stuffed(t, 0)
	do(t, b, room(1000), fuse(5, none()))
	gives(t, "P16.5: as many writes as it takes", b, data(0, said(echo(1), echo(2))), answers(0, 64, answer(echo(1), 0), answer(echo(2), 0))...)
	records(t, "P16.5: a compaction", b, 2, 0)
	nine := []api.Message{find(1)}
	for id := range uint16(9) {
		nine = append(nine, echo(10+id))
	}
	b = stuffed(t, 0)
	do(t, b, data(0, said(nine[:9]...)), fuse(0, none()))
	gives(t, "P16.5: behind an abort too", b, data(0, said(nine[9])), append(sends(0, aborting(0, 0)), downs())...)
}

// TestNoRoom: a change for which there is no room is refused, and leaves no trace.
func TestNoRoom(t *testing.T) {
	b := over(t, many(40))
	associate(t, b, 4, 0)
	full := usedBy(t, b)
	do(t, b, room(full))
	was := b.Disk()
	big := performed("S001", "X^Y", strings.Repeat("c", 1000))
	gives(t, "P16.5: no room", b, data(4, said(create(1, "1.9", big))), answers(4, 16384, answer(create(1, "1.9", big), 0x110))...)
	gives(t, "P16.8: no room", b, fed(ordering("M1", api.OrderNew, bigRow("Z"))), acks("M1", "AE", "no room"))
	hasState(t, "P16.5: no room", b, many(40))
	if !same(b.Disk(), was) {
		t.Error("W2: what was refused left a trace")
	}
	do(t, b, room(full+100))
	gives(t, "P16.5: room again", b, data(4, said(create(1, "1.9", big))), answers(4, 16384, answer(create(1, "1.9", big), 0))...)
	gives(t, "P16.8: room again", b, fed(ordering("M1", api.OrderNew, bigRow("Z"))), acks("M1", "AA", ""))
}

// bigRow is a row whose record has more than a block.
func bigRow(id string) api.Step {
	s := row(id)
	s.ProcedureDesc, s.Desc, s.Issuer = strings.Repeat("ä", 64), strings.Repeat("ö", 64), strings.Repeat("ü", 64)
	s.Referrer, s.Performer = strings.Repeat("é", 64), strings.Repeat("è", 64)
	return s
}
