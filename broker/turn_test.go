package broker_test

import (
	"slices"
	"testing"

	"modality/api"
)

// TestTurns: a turn puts out one answer of each line with a query, lines 0 to 15 in order.
func TestTurns(t *testing.T) {
	b := over(t, scheduled("A", "B"))
	lines := []int{15, 3, 0, 8}
	for i, n := range lines {
		associate(t, b, n, 64)
		gives(t, "P16.5: a query", b, data(n, said(find(uint16(i)))))
	}
	associate(t, b, 5, 64)
	do(t, b, link(6))
	gives(t, "P16.6: no turn", b, turn(0))
	for _, id := range []string{"A", "B", ""} {
		var want []api.Out
		for _, n := range []int{0, 3, 8, 15} {
			m := find(uint16(slices.Index(lines, n)))
			if id == "" {
				want = append(want, answers(n, 64, answer(m, 0))...)
			} else {
				want = append(want, answers(n, 64, match(m, id))...)
			}
		}
		gives(t, "P16.6: a turn", b, turn(1), want...)
	}
	gives(t, "P16.6: nothing runs", b, turn(1))
	for n := range 16 {
		if b.Owed(n) != 0 {
			t.Errorf("P16.6: line %d owes", n)
		}
	}
}

// TestTurnsMany: so many turns are so many single ones.
func TestTurnsMany(t *testing.T) {
	b := over(t, scheduled("A", "B", "C"))
	associate(t, b, 2, 64)
	do(t, b, data(2, said(find(1))))
	gives(t, "P16.6: two turns", b, turn(2), answers(2, 64, match(find(1), "A"), match(find(1), "B"))...)
	associate(t, b, 1, 64)
	do(t, b, data(1, said(find(2))))
	gives(t, "P16.6: turn by turn", b, turn(100000), slices.Concat(
		answers(1, 64, match(find(2), "A")), answers(2, 64, match(find(1), "C")),
		answers(1, 64, match(find(2), "B")), answers(2, 64, answer(find(1), 0)),
		answers(1, 64, match(find(2), "C")), answers(1, 64, answer(find(2), 0)))...)
}

// TestTurnNoMatch: a query without a match has its final answer in the next turn.
func TestTurnNoMatch(t *testing.T) {
	b := over(t, api.State{})
	associate(t, b, 2, 64)
	gives(t, "P16.5: a query without a match", b, data(2, said(find(1))))
	if got := b.Line(2); !got.Query || got.Owed != 1 {
		t.Errorf("P16.9: %s", shown(got))
	}
	gives(t, "P16.6: its final answer", b, turn(1), answers(2, 64, answer(find(1), 0))...)
}

// TestTurnBegins: what waits is begun in the turn of the final answer; a query that is begun there has its first answer in the next.
func TestTurnBegins(t *testing.T) {
	b := over(t, scheduled("A"))
	associate(t, b, 2, 64)
	do(t, b, data(2, said(find(1), echo(2), create(3, "1.9", plain("A")), find(4), echo(5), find(6))))
	do(t, b, turn(1))
	gives(t, "P16.6: a final answer and what waits", b, turn(1), answers(2, 64, answer(find(1), 0), answer(echo(2), 0), answer(create(3, "1.9", plain("A")), 0))...)
	if got := b.Line(2); !got.Query || got.Queue != 2 || got.Owed != 2+257+1 {
		t.Errorf("P16.9: %s", shown(got))
	}
	gives(t, "P16.6: the next query", b, turn(1), answers(2, 64, match(find(4), "A"))...)
	gives(t, "P16.6: its end", b, turn(1), answers(2, 64, answer(find(4), 0), answer(echo(5), 0))...)
	gives(t, "P16.6: the last", b, turn(2), answers(2, 64, match(find(6), "A"), answer(find(6), 0))...)
}

// TestQuerySnapshot: a query tells the schedule as it was when it was begun, whatever other lines and the feed do.
func TestQuerySnapshot(t *testing.T) {
	b := over(t, scheduled("A", "B"))
	associate(t, b, 2, 64)
	associate(t, b, 3, 64)
	do(t, b, data(2, said(find(1))), fed(ordering("M1", api.OrderCancel, row("B"))), fed(ordering("M2", api.OrderNew, row("C"))))
	do(t, b, data(3, said(find(2))))
	gives(t, "W4", b, turn(3), slices.Concat(
		answers(2, 64, match(find(1), "A")), answers(3, 64, match(find(2), "A")),
		answers(2, 64, match(find(1), "B")), answers(3, 64, match(find(2), "C")),
		answers(2, 64, answer(find(1), 0)), answers(3, 64, answer(find(2), 0)))...)
}

// TestRelease: at once where nothing is owed; what was half read is let go.
func TestRelease(t *testing.T) {
	b := over(t, scheduled("A"))
	associate(t, b, 2, 64)
	do(t, b, data(2, dataPdu(fragments(find(1), 9)[0])))
	if b.Held(2) == 0 {
		t.Fatal("the test's line holds nothing")
	}
	gives(t, "P16.4: a release", b, data(2, releaseRQ()), sends(2, releaseRP())...)
	if got := b.Line(2); !same(got, api.LineLook{Sta: 13}) {
		t.Errorf("P16.4: %s", shown(got))
	}
	gives(t, "P16.4: what comes then is let go", b, data(2, said(echo(1)), releaseRQ()))
	gives(t, "P16.4: until the end", b, data(2, aborting(0, 0)), shuts(2))
	isIdle(t, "P16.4: the end", b, 2)
}

// TestLeaving: a release is answered right behind the last answer, in that turn, line by line.
func TestLeaving(t *testing.T) {
	b := over(t, scheduled("A"))
	for _, n := range []int{2, 7} {
		associate(t, b, n, 64)
		do(t, b, data(n, said(find(1), echo(2), find(3), echo(4)), said(echo(9))[:70]))
		gives(t, "P16.4: a release", b, data(n, said(echo(9))[70:], releaseRQ()))
		if got := b.Line(n); got.Sta != 8 || !got.Leaving || got.Owed != 2+257+1 || got.Queue != 4 || !got.Query || got.Most != 64 {
			t.Fatalf("P16.9: %s", shown(got))
		}
	}
	for _, want := range [][]api.Message{
		{match(find(1), "A")},
		{answer(find(1), 0), answer(echo(2), 0)},
		{match(find(3), "A")},
	} {
		gives(t, "P16.6: a turn", b, turn(1), append(answers(2, 64, want...), answers(7, 64, want...)...)...)
		if !b.Line(2).Leaving || b.Line(2).Sta != 8 {
			t.Fatalf("P16.9: %s", shown(b.Line(2)))
		}
	}
	last := []api.Message{answer(find(3), 0), answer(echo(4), 0), answer(echo(9), 0)}
	gives(t, "P16.6: the release", b, turn(9), slices.Concat(answers(2, 64, last...), sends(2, releaseRP()), answers(7, 64, last...), sends(7, releaseRP()))...)
	for _, n := range []int{2, 7} {
		if got := b.Line(n); !same(got, api.LineLook{Sta: 13}) {
			t.Errorf("P16.6: %s", shown(got))
		}
	}
	gives(t, "P16.6: once", b, turn(9))
}

// TestLeavingCancel: a C-CANCEL behind a release request is data in Sta8.
func TestLeavingCancel(t *testing.T) {
	b := over(t, scheduled("A"))
	associate(t, b, 2, 64)
	do(t, b, data(2, said(find(1)), releaseRQ()))
	gives(t, "P16.4: data in Sta8", b, data(2, said(cancel(1))), sends(2, aborting(2, 2))...)
	if got := b.Line(2); !same(got, api.LineLook{Sta: 13}) {
		t.Errorf("P16.4: %s", shown(got))
	}
	gives(t, "P16.6: nothing runs, nothing leaves", b, turn(9))
}

// TestCompactBehindTurn: a compaction that was put off is tried again in a turn, if a line has an association; whether a query runs on it or not.
func TestCompactBehindTurn(t *testing.T) {
	b := stuffed(t, -1)
	do(t, b, room(1000), link(1))
	gives(t, "P16.6: no association", b, turn(3))
	records(t, "P16.6: no association", b, 1, 3)
	for _, busy := range []bool{false, true} {
		b := stuffed(t, 9)
		if busy {
			do(t, b, data(9, said(find(1))))
		}
		do(t, b, turn(2), room(1000), turn(0))
		records(t, "P16.6: put off", b, 1, 3)
		do(t, b, turn(1))
		records(t, "P16.6: behind a turn", b, 2, 0)
	}
}

// TestCompactOffBehindTurn: the power goes with a turn's compaction: behind that line's answer, ahead of its release and of the other lines.
func TestCompactOffBehindTurn(t *testing.T) {
	b := stuffed(t, 3)
	associate(t, b, 8, 64)
	do(t, b, data(3, said(askWith(3, api.CFind, 1, "", list(el(api.TagPatientID, "none")))), releaseRQ()), data(8, said(find(2))), fuse(0, none()))
	none := askWith(3, api.CFind, 1, "", list(el(api.TagPatientID, "none")))
	gives(t, "P16.6: the power", b, turn(1), append(answers(3, 64, answer(none, 0)), downs())...)
	if b.Up() {
		t.Error("P16.7: it is up")
	}
	b = stuffed(t, 3)
	do(t, b, fuse(0, api.PowerCut{}))
	gives(t, "P16.6: the power, and no query", b, turn(1), downs())
	b = stuffed(t, -1)
	do(t, b, fuse(0, api.PowerCut{}))
	gives(t, "P16.6: no association", b, turn(100))
	if !b.Up() {
		t.Error("P16.6: nothing was written")
	}
}

// TestTurnChanges: a change that waits is made in a turn; the power may go there, behind what was answered ahead.
func TestTurnChanges(t *testing.T) {
	b := over(t, scheduled("A"))
	associate(t, b, 3, 64)
	associate(t, b, 4, 64)
	do(t, b, data(3, said(find(1), echo(2), create(3, "1.9", plain("A")), echo(4))), data(4, said(find(7))))
	do(t, b, turn(1), fuse(1, none()))
	gives(t, "P16.6: the power goes in a turn", b, turn(5), append(answers(3, 64, answer(find(1), 0), answer(echo(2), 0)), downs())...)
	do(t, b, start())
	hasState(t, "P16.7: it was not kept", b, scheduled("A"))
}

// TestTurnsEnd: the greatest count ends soon, whatever is put off and however many lines there are.
func TestTurnsEnd(t *testing.T) {
	c := wideConfig()
	c.Compact = 1
	b := begun(t, c, diskOf(t, many(256)).Image())
	for n := range 16 {
		associate(t, b, n, 64)
		gives(t, "it runs", b, data(n, said(find(1))))
	}
	do(t, b, room(0))
	gives(t, "P16.8", b, fed(ordering("M1", api.OrderCancel, row("S001"))), acks("M1", "AA", ""))
	records(t, "P16.8: it is put off", b, 1, 1)
	if outs := do(t, b, turn(100000)); len(outs) < 16*257 {
		t.Errorf("P16.6: %d Outs", len(outs))
	}
	for n := range 16 {
		if got := b.Line(n); got.Owed != 0 || got.Sta != 6 {
			t.Errorf("P16.6: %s", shown(got))
		}
	}
	gives(t, "P16.6: nothing runs", b, turn(100000))
	gives(t, "P16.6: no timer runs", b, tick(100000))
}
