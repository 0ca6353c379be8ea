package service_test

import (
	"testing"

	"modality/api"
)

// TestLook: what runs and waits, reckoned by hand.
func TestLook(t *testing.T) {
	v, _, _ := served(t, scheduled("A", "B"))
	// PatientName 8 and 8, the sequence 8, its item 8, the step's ID 8 and 2
	const size = 42
	isIdle(t, "a new one", v)
	m := find(1)
	v.Take(m)
	tells(t, "a query", v, looks{Running: true, Owed: 3, Held: 2 * size})
	v.Take(echo(2))
	tells(t, "an echo waits", v, looks{Queue: 1, Running: true, Owed: 4, Held: 2*size + 4096})
	c := create(3, "1.9", plain("A"))
	v.Take(c)
	tells(t, "an N-CREATE waits", v, looks{Queue: 2, Running: true, Owed: 4, Held: 2*size + 2*4096 + len(c.Data)})
	f := find(4)
	v.Take(f)
	held := 3*4096 + len(c.Data) + len(f.Data)
	tells(t, "a C-FIND waits", v, looks{Queue: 3, Running: true, Owed: 4 + 257, Held: 2*size + held})
	v.Turn()
	tells(t, "a turn", v, looks{Queue: 3, Running: true, Owed: 3 + 257, Held: size + held})
	v.Take(cancel(4))
	tells(t, "it is cancelled", v, looks{Queue: 3, Running: true, Owed: 3, Held: size + held})
	v.Turn()
	tells(t, "a turn", v, looks{Queue: 3, Running: true, Owed: 2, Held: held})
	v.Turn()
	isIdle(t, "the last turn", v)
}

// TestLookWaiting: bytes are counted as they came, whatever they are.
func TestLookWaiting(t *testing.T) {
	v, _, _ := served(t, api.State{})
	v.Take(find(1))
	tells(t, "a query without answers", v, looks{Running: true, Owed: 1})
	m := ask(15, api.CFind, 2)
	m.Data = make([]byte, 77)
	v.Take(m)
	tells(t, "no C-FIND that is served, no data set", v, looks{Queue: 1, Running: true, Owed: 1 + 257 + 1, Held: 4096 + 77})
	m = get(7, 3, "1.9", make([]api.Tag, 500)...)
	v.Take(m)
	tells(t, "an N-GET", v, looks{Queue: 2, Running: true, Owed: 1 + 257 + 1, Held: 2*4096 + 77})
	wants(t, "0210H", v.Take(echo(3)), answer(echo(3), 0x210))
	tells(t, "0210H", v, looks{Queue: 2, Running: true, Owed: 1 + 257 + 1, Held: 2*4096 + 77})
}

// TestHeldForm: the sizes are those in one form, whatever goes out.
func TestHeldForm(t *testing.T) {
	v, _, _ := served(t, api.State{Steps: []api.Step{named("A", "Müller^Jörg"), named("B", "Łukasz")}})
	want := []int{sizeIn(list(el(api.TagPatientName, "Müller^Jörg"), el(api.TagSex, ""))), sizeIn(list(el(api.TagPatientName, "Łukasz"), el(api.TagSex, "")))}
	for _, context := range []uint8{3, 9} {
		for _, term := range []string{"", "ISO_IR 100", "ISO_IR 192", `\ISO 2022 IR 101`} {
			m := findBy(context, 1, el(api.TagCharset, term), el(api.TagPatientName, ""), el(api.TagSex, ""))
			v.Take(m)
			tells(t, term, v, looks{Running: true, Owed: 3, Held: want[0] + want[1]})
			v.Turn()
			tells(t, term, v, looks{Running: true, Owed: 2, Held: want[1]})
			v.Take(cancel(1))
			isIdle(t, term, v)
		}
	}
}

// TestHeldMost: the bound that DOC.md names is reached, and kept.
func TestHeldMost(t *testing.T) {
	const count = 64
	v, _, _ := served(t, many(count))
	v.Take(findBy(3, 1, bare(api.MaxAnswers/count/8)))
	for id := range uint16(api.MaxQueue) {
		m := find(10 + id)
		m.Data = make([]byte, api.MaxData)
		v.Take(m)
	}
	tells(t, "all that may be", v, looks{Queue: 8, Running: true, Owed: count + 1 + 8*257 + 1, Held: api.MaxAnswers + api.MaxQueue*(api.MaxCommand+api.MaxData)})
	aborts(t, "one more", v.Take(find(30)))
}

// TestOwed: behind as many turns as are owed nothing runs and waits.
func TestOwed(t *testing.T) {
	v, _, _ := served(t, many(20))
	for id := range uint16(9) {
		v.Take(find(id))
	}
	v.Take(cancel(4))
	owed := v.Owed()
	finals := 0
	for _, m := range turns(v, owed) {
		if m.Cmd.Status != 0xFF00 {
			finals++
		}
	}
	if isIdle(t, "P15.11: behind Owed turns", v); finals != 9 {
		t.Errorf("P15.11: %d final answers", finals)
	}
	if want := 21 + 7*257 + 1; owed != want {
		t.Errorf("P15.10: owed %d, not %d", owed, want)
	}
}
