package feed_test

import (
	"bytes"
	"strings"
	"testing"

	"modality/api"
	"modality/feed"
)

// refusals calls every face with what it refuses, each reason once.
func refusals() map[string]error {
	all := map[string]error{}
	for _, f := range faults() {
		d := cut(whole)
		f.turn(d)
		_, all["Parse, "+f.name] = feed.Parse(d.text())
	}
	_, all["Split, head"] = feed.Split("")
	_, all["Split, segment"] = feed.Split(head + "x")
	_, all["Plain, marks"] = feed.Plain("", "")
	_, all["Plain, escape"] = feed.Plain("|^~\\&", "\\")
	_, all["Print, verb"] = feed.Print(api.Order{})
	_, all["Print, order"] = feed.Print(api.Order{Verb: 1})
	_, all["Ack, control"] = feed.Ack("\n", "AA", "")
	_, all["Ack, code"] = feed.Ack("", "", "")
	_, all["Ack, long"] = feed.Ack("", "AA", strings.Repeat("x", 300))
	_, all["Ack, text"] = feed.Ack("", "AA", "\n")
	return all
}

// TestFaults: each refusal is a new fault of this layer with a number of this layer, so that nobody can change another's.
func TestFaults(t *testing.T) {
	seen := map[*api.Fault]string{}
	for range 2 {
		for call, err := range refusals() {
			f, ok := err.(*api.Fault)
			if !ok || f == nil || f.Layer != "feed" {
				t.Errorf("DOC.md, Errors: %s: %v", call, err)
				continue
			}
			number, ok := f.Err.(api.Errno)
			if !ok || number < 220 || number > 230 {
				t.Errorf("DOC.md, Errors: %s: %v", call, err)
			}
			if seen[f] != "" {
				t.Errorf("DOC.md, Errors: %s and %s give one fault", call, seen[f])
			}
			seen[f] = call
			f.Layer, f.At, f.Err = "changed", -1, nil
		}
	}
}

// TestZeroFramer: a framer that NewFramer did not make takes nothing and holds nothing.
func TestZeroFramer(t *testing.T) {
	var none *feed.Framer
	for _, f := range []*feed.Framer{none, {}, new(feed.Framer)} {
		for range 2 {
			if got := f.Take([]byte("\x0bA\x1c\r\x0bB")); got != nil || f.Held() != 0 {
				t.Errorf("DOC.md: %v, Held %d", got, f.Held())
			}
		}
		if f != nil && !same(*f, feed.Framer{}) {
			t.Errorf("DOC.md: a plain framer was changed")
		}
	}
}

// TestApart: framers have nothing in common, and neither keep nor change what they are given.
func TestApart(t *testing.T) {
	a, b := feed.NewFramer(), feed.NewFramer()
	if a == b {
		t.Fatal("DOC.md: one framer for two")
	}
	room := append([]byte("\x0bABC"), 9, 9, 9)
	a.Take(room[:4])
	if !bytes.Equal(room, append([]byte("\x0bABC"), 9, 9, 9)) {
		t.Errorf("DOC.md, Memory: the bytes are now % x", room)
	}
	for i := range room {
		room[i] = 'x'
	}
	if b.Held() != 0 || a.Held() != 3 {
		t.Errorf("DOC.md: %d and %d bytes are held", a.Held(), b.Held())
	}
	b.Take([]byte("\x0bDEFG\x1c"))
	if got := a.Take([]byte{0x1c, 0x0d}); !same(got, []api.FeedFrame{{Text: "ABC"}}) {
		t.Errorf("DOC.md, Memory: %v", got)
	}
	if got := b.Take([]byte{0x0d}); !same(got, []api.FeedFrame{{Text: "DEFG"}}) {
		t.Errorf("DOC.md, Memory: %v", got)
	}
	if got := a.Take(nil); got != nil || a.Held() != 0 {
		t.Errorf("P11.1: nothing taken: %v", got)
	}
	if got := a.Take([]byte{}); got != nil {
		t.Errorf("P11.1: nothing taken: %v", got)
	}
}

// TestAnswersApart: no two lists of answers share memory, spare room included.
func TestAnswersApart(t *testing.T) {
	first, _ := feed.Split(whole)
	second, _ := feed.Split(whole)
	want, _, _ := modelSplit(whole)
	for i := range first {
		l := first[i][:cap(first[i])]
		for k := range l {
			l[k] = "changed"
		}
		if !same(first[i+1:], want[i+1:]) || !same(second, want) {
			t.Fatalf("DOC.md, Memory: a segment of Split is shared")
		}
	}
	a, b := feed.Frame("AB"), feed.Frame("AB")
	dirty := a[:cap(a)]
	for i := range dirty {
		dirty[i] = 'x'
	}
	if string(b) != "\x0bAB\x1c\r" {
		t.Errorf("DOC.md, Memory: Frame's answers are shared")
	}
	o, _ := feed.Parse(whole)
	p, _ := feed.Parse(whole)
	o.Steps[0].ID = "changed"
	if !same(p, order()) {
		t.Errorf("DOC.md, Memory: Parse's answers are shared")
	}
}

// TestPrintKeeps: Print changes nothing of the order that it is given, spare room included.
func TestPrintKeeps(t *testing.T) {
	o := order()
	o.Steps = append(o.Steps, api.Step{ID: "room"})[:1]
	if _, err := feed.Print(o); err != nil || !same(o, order()) || o.Steps[:2][1].ID != "room" {
		t.Errorf("DOC.md, Memory: %s, %v", shown(o), err)
	}
	c := api.Order{Control: "1", Verb: api.OrderCancel, IDs: append([]string{"a|b"}, "room")[:1]}
	if _, err := feed.Print(c); err != nil || c.IDs[0] != "a|b" || c.IDs[:2][1] != "room" {
		t.Errorf("DOC.md, Memory: %s, %v", shown(c), err)
	}
}

// TestHuge: what is far beyond every limit is refused in time.
func TestHuge(t *testing.T) {
	steps := make([]api.Step, 100000)
	for i := range steps {
		steps[i] = order().Steps[0]
	}
	if _, err := feed.Print(api.Order{Control: "1", Verb: 1, Steps: steps}); !is(err, api.ErrFeedValue, 0) {
		t.Errorf("P11.7: %v", err)
	}
	text := strings.Repeat("\\", 1<<20)
	if _, err := feed.Plain("|^~\\&", text); !is(err, api.ErrFeedEscape, 0) {
		t.Errorf("P11.3: %v", err)
	}
	if got, err := feed.Plain("|^~\\&", strings.Repeat("\\E\\", 1<<20)); err != nil || got != text {
		t.Errorf("P11.3: %d bytes, %v", len(got), err)
	}
	if l, err := feed.Split(head + strings.Repeat("|", 1<<20)); !is(err, api.ErrFeedSegment, 1) && (err != nil || len(l) != 2) {
		t.Errorf("P11.2: %v", err)
	}
}
