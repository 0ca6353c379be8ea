package broker_test

import (
	"fmt"
	"slices"
	"strings"
	"testing"

	"modality/api"
	"modality/feed"
)

// TestOrders: what is taken, what is refused, and how it is acknowledged.
func TestOrders(t *testing.T) {
	b := begun(t, wideConfig(), fresh())
	wrong := row("C")
	wrong.Modality = "ct"
	for _, x := range []struct {
		name  string
		frame []byte
		want  api.Out
		steps string
	}{
		{"new", ordering("M1", api.OrderNew, row("A"), row("B")), acks("M1", "AA", ""), "A B"},
		{"the same control ID", ordering("M1", api.OrderCancel, row("A")), acks("M1", "AA", ""), "A B"},
		{"there already", ordering("M2", api.OrderNew, row("B")), acks("M2", "AE", "step is there"), "A B"},
		{"no such step", ordering("M2", api.OrderChange, row("C")), acks("M2", "AE", "no such step"), "A B"},
		{"a refused one's control ID is not kept", ordering("M2", api.OrderChange, named("B", "Other")), acks("M2", "AA", ""), "A B"},
		{"cancelled", ordering("M3", api.OrderCancel, row("A")), acks("M3", "AA", ""), "B"},
		{"a value", ordering("M4", api.OrderNew, wrong), acks("M4", "AE", "value"), "B"},
		{"no header", feed.Frame("PID|1"), acks("", "AR", "no header"), "B"},
		{"nothing", feed.Frame(""), acks("", "AR", "no header"), "B"},
		{"another kind", feed.Frame("MSH|^~\\&|||||||ADT^A01|M9|P|2.3.1"), acks("M9", "AR", "not served"), "B"},
		{"a character set", feed.Frame("MSH|^~\\&|||||||ORM^O01|M9|P|2.3.1||||||X"), acks("M9", "AE", "character set"), "B"},
		{"no control ID", feed.Frame("MSH|^~\\&|||||||ORM^O01||P|2.3.1"), acks("", "AR", "no control ID"), "B"},
		{"no segments", feed.Frame("MSH|^~\\&|||||||ORM^O01|M9|P|2.3.1"), acks("M9", "AE", "segment"), "B"},
		{"refused, with the last control ID", feed.Frame("MSH|^~\\&|||||||ORM^O01|M3|P|2.3.1"), acks("M3", "AA", ""), "B"},
		{"marks in its control ID", feed.Frame("MSH|^~\\&|||||||ADT^A01|M\\S\\9|P|2.3.1"), acks("M^9", "AR", "not served"), "B"},
	} {
		gives(t, "P16.8: "+x.name, b, fed(x.frame), x.want)
		var ids []string
		for _, s := range b.State().Steps {
			ids = append(ids, s.ID)
		}
		if strings.Join(ids, " ") != x.steps {
			t.Fatalf("P16.8: %s: the steps are %v", x.name, ids)
		}
	}
	if st := b.State(); st.Control != "M3" || st.Steps[0].PatientName != "Other" {
		t.Errorf("P16.8: %s", shown(st))
	}
}

// TestLong: a message that is too long is refused without being read, whatever control ID it has.
func TestLong(t *testing.T) {
	b := begun(t, wideConfig(), fresh())
	do(t, b, fed(ordering("M1", api.OrderNew, row("A"))))
	text := string(ordering("M1", api.OrderNew, row("A")))
	text = text[1 : len(text)-2]
	fill := text + "NTE|" + strings.Repeat("x", 16384-len(text)-4)
	gives(t, "P16.8: as long as may be", b, fed(feed.Frame(fill)), acks("M1", "AA", ""))
	gives(t, "P16.8: too long", b, fed(feed.Frame(fill+"x")), acks("", "AR", "too long"))
	gives(t, "P16.8: far too long", b, fed(feed.Frame(fill+strings.Repeat("x", 100000))), acks("", "AR", "too long"))
	gives(t, "P16.8: too long, and no message", b, fed(feed.Frame(strings.Repeat("\x00", 16385))), acks("", "AR", "too long"))
	gives(t, "P16.8: behind it", b, fed(ordering("M2", api.OrderNew, row("B"))), acks("M2", "AA", ""))
	hasState(t, "P16.8", b, ordered("M2", "A", "B"))
}

// TestFeedCuts: a feed is the same however it is cut; what stands between frames is let go.
func TestFeedCuts(t *testing.T) {
	stream := slices.Concat([]byte("xx"), ordering("M1", api.OrderNew, row("A")), []byte{0x0D, 0x1C}, ordering("M2", api.OrderNew, row("B")), ordering("M3", api.OrderCancel, row("A"))[:40], ordering("M4", api.OrderCancel, row("B")))
	want := []api.Out{acks("M1", "AA", ""), acks("M2", "AA", ""), acks("M4", "AA", "")}
	for cut := range stream {
		b := begun(t, wideConfig(), fresh())
		if outs := do(t, b, fed(stream[:cut]), fed(stream[cut:])); !same(outs, want) {
			t.Fatalf("P16.8: cut at %d: %s", cut, shown(outs))
		}
		hasState(t, "P16.8", b, ordered("M4", "A"))
	}
	b := begun(t, wideConfig(), fresh())
	gives(t, "P16.8: in one", b, fed(stream), want...)
	gives(t, "P16.8: nothing", b, fed())
}

// TestFeedLink: what was half read is let go, and nothing else.
func TestFeedLink(t *testing.T) {
	b := over(t, scheduled("A"))
	associate(t, b, 3, 64)
	do(t, b, data(3, said(find(1)), said(echo(2))[:9]))
	was := lookAll(b)
	frame := ordering("M1", api.OrderNew, row("B"))
	for _, cut := range []int{1, 20, len(frame) - 2, len(frame) - 1} {
		gives(t, "P16.8: half an order", b, fed(frame[:cut]))
		gives(t, "P16.8: AFeedLink", b, feedLink())
		gives(t, "P16.8: the other half", b, fed(frame[cut:]))
	}
	if got := lookAll(b); !same(got, was) {
		t.Errorf("P16.8: AFeedLink changed %s into %s", shown(was), shown(got))
	}
	gives(t, "P16.8: a whole one", b, fed(frame), acks("M1", "AA", ""))
}

// TestCompactBehindOrder: behind each message that is acknowledged, refused ones too; and the order is record, acknowledgement, compaction.
func TestCompactBehindOrder(t *testing.T) {
	for name, frame := range map[string][]byte{
		"one that is taken":         ordering("M9", api.OrderCancel, row("Z1")),
		"one that was taken before": ordering("MZ3", api.OrderNew, row("Z9")),
		"one that is refused":       ordering("M9", api.OrderNew, row("Z1")),
		"one that can't be read":    feed.Frame("x"),
		"one that is too long":      feed.Frame(strings.Repeat("x", 16385)),
		"the first of two":          append(feed.Frame("x"), feed.Frame("y")...),
	} {
		b := stuffed(t, -1)
		do(t, b, room(1000), fed(frame[:2]))
		records(t, "P16.8: a half-read one", b, 1, 3)
		do(t, b, fed(frame[2:]))
		records(t, "P16.8: behind "+name, b, 2, 0)
		b = stuffed(t, -1)
		do(t, b, fuse(0, none()), feedLink())
		outs := do(t, b, fed(frame))
		if name == "one that is taken" {
			if !same(outs, []api.Out{downs()}) {
				t.Errorf("P16.8: %s: %s", name, shown(outs))
			}
		} else if len(outs) != 2 || outs[0].Kind != api.OAck || outs[1].Kind != api.ODown {
			t.Errorf("P16.8: %s: the power goes behind the acknowledgement: %s", name, shown(outs))
		}
	}
	b := stuffed(t, -1)
	do(t, b, feedLink(), room(1000), feedLink())
	records(t, "P16.8: AFeedLink", b, 1, 3)
}

// TestScheduleFull: the limit of the schedule, and the way back.
func TestScheduleFull(t *testing.T) {
	b := over(t, many(256))
	gives(t, "P16.8: full", b, fed(ordering("M1", api.OrderNew, row("Z"))), acks("M1", "AE", "schedule is full"))
	gives(t, "P16.8: the way back", b, fed(ordering("M2", api.OrderCancel, row("S007"))), acks("M2", "AA", ""))
	gives(t, "P16.8: room", b, fed(ordering("M3", api.OrderNew, row("Z"))), acks("M3", "AA", ""))
}

// TestOrdersOnce: an order that is sent again ahead of the next that is taken is made once, over starts too (W7).
func TestOrdersOnce(t *testing.T) {
	b := begun(t, config(), fresh())
	for i := range 12 {
		frame := ordering(fmt.Sprint("M", i), api.OrderNew, row(fmt.Sprintf("A%02d", i)))
		for again := range 3 {
			gives(t, "W7", b, fed(frame), acks(fmt.Sprint("M", i), "AA", ""))
			if again == 1 && i%3 == 0 {
				do(t, b, power(none()), start())
			}
			gives(t, "a refused one between", b, fed(ordering("X", api.OrderCancel, row("none"))), acks("X", "AE", "no such step"))
		}
		if got := len(b.State().Steps); got != i+1 {
			t.Fatalf("W7: %d steps behind %d orders", got, i+1)
		}
	}
}
