package service_test

import (
	"fmt"
	"testing"

	"modality/api"
	"modality/store"
)

// moved is a state in which a step has another status.
func moved(st api.State, status int) api.State {
	st.Steps = append([]api.Step(nil), st.Steps...)
	st.Steps[0].Status = status
	return st
}

// performing is a state with one performed step.
func performing(row []api.Node) api.State {
	st := moved(scheduled("A", "B"), api.StepStarted)
	st.Perfs = []api.Perf{{UID: "1.9", State: api.PerfProgress, Data: row}}
	return st
}

// ended is a performed step's row behind its end.
func ended(row []api.Node, word string) []api.Node {
	var all []api.Node
	for _, n := range row {
		switch n.Tag {
		case api.TagEndDate:
			n.Value = "20260701"
		case api.TagEndTime:
			n.Value = "0915"
		case api.TagDoneStatus:
			n.Value = word
		case api.TagSeries:
			continue
		}
		all = append(all, n)
	}
	return append(all, finish(word)[3:]...)
}

// TestEcho: it is answered at once, and changes nothing.
func TestEcho(t *testing.T) {
	v, s, _ := served(t, performing(plain("A")))
	m := echo(3)
	m.Cmd.Instance = "1.9"
	wants(t, "P15.4", v.Take(m), api.Message{Context: 1, Cmd: api.Cmd{Field: 0x8030, Class: api.UIDVerify, To: 3}})
	stateIs(t, "P15.11", s, performing(plain("A")))
}

// TestPerform: a performed step from its beginning to its end.
func TestPerform(t *testing.T) {
	for _, context := range []uint8{5, 11} {
		for word, state := range map[string]int{"COMPLETED": api.PerfCompleted, "DISCONTINUED": api.PerfDiscontinued} {
			v, s, _ := served(t, scheduled("A", "B"))
			m := asking(context, api.NCreate, 1, "1.9", plain("A"))
			wants(t, "P15.5: created", v.Take(m), answer(m, 0))
			stateIs(t, "P15.5: created", s, performing(plain("A")))
			wants(t, "P15.5: twice", v.Take(m), answer(m, 0x111))
			m = asking(context, api.NSet, 2, "1.9", list(el(api.TagComments, "so far")))
			wants(t, "P15.5: set", v.Take(m), answer(m, 0))
			stateIs(t, "P15.5: set", s, performing(begun("A", "X^Y", "so far")))
			m = asking(context, api.NSet, 3, "1.9", finish(word))
			wants(t, "P15.5: ended", v.Take(m), answer(m, 0))
			last := moved(scheduled("A", "B"), api.StepCompleted+state-api.PerfCompleted)
			last.Perfs = []api.Perf{{UID: "1.9", State: state, Data: ended(begun("A", "X^Y", "so far"), word)}}
			stateIs(t, "P15.5: ended", s, last)
			final := answer(m, 0x110)
			final.Cmd.ErrorId = 0xA710
			wants(t, "P15.5: behind its end", v.Take(m), final)
			stateIs(t, "P15.5: behind its end", s, last)
			isIdle(t, "behind it", v)
		}
	}
}

// TestPerformRefused: status and offending tags are the verdict's, and nothing changes.
func TestPerformRefused(t *testing.T) {
	v, s, _ := served(t, performing(plain("A")))
	for _, x := range []struct {
		m         api.Message
		status    uint16
		offending []api.Tag
	}{
		{create(1, "", plain("A")), 0x117, nil},
		{create(1, "1.09", plain("A")), 0x117, nil},
		{create(1, "1.9", nil), 0x111, nil},
		{create(1, "1.8", list(el(api.TagModality, "CT"), el(api.TagStudyUID, "1.2"))), 0x105, []api.Tag{api.TagStudyUID}},
		{create(1, "1.8", plain("A")[1:]), 0x120, []api.Tag{api.TagModality}},
		{create(1, "1.8", list(el(api.TagModality, ""), plain("A")[1:])), 0x121, []api.Tag{api.TagModality}},
		{create(1, "1.8", begun("A", "X^Y", long("a", 2000))), 0x106, []api.Tag{api.TagComments}},
		{set(1, "1.8", nil), 0x112, nil},
		{set(1, "", nil), 0x112, nil},
		{set(1, "1.9", list(el(api.TagPatientID, "8"))), 0x105, []api.Tag{api.TagPatientID}},
		{set(1, "1.9", list(el(api.TagDoneStatus, "COMPLETED"))), 0x121, []api.Tag{api.TagEndDate, api.TagEndTime, api.TagSeries}},
	} {
		wants(t, "P15.5: refused", v.Take(x.m), answer(x.m, x.status, x.offending...))
		stateIs(t, "P15.5: refused", s, performing(plain("A")))
	}
}

// TestPerformText: what is kept is UTF-8, in whatever set it came.
func TestPerformText(t *testing.T) {
	for term, name := range map[string]string{"ISO_IR 100": "M\xFCller", "ISO_IR 192": "Müller", `\ISO 2022 IR 100`: "M\x1B-A\xFCller"} {
		v, s, _ := served(t, scheduled("A", "B"))
		m := create(1, "1.9", list(el(api.TagCharset, term), begun("A", name, "")))
		wants(t, "P15.5: "+term, v.Take(m), answer(m, 0))
		stateIs(t, "P15.5: "+term, s, performing(begun("A", "Müller", "")))
	}
}

// TestSetNothing: a Set without elements is no change: it needs neither room nor power.
func TestSetNothing(t *testing.T) {
	v, s, d := served(t, performing(plain("A")))
	d.Quota(0)
	m := set(1, "1.9", nil)
	wants(t, "P15.5: no change, no room", v.Take(m), answer(m, 0))
	d.Fuse(0)
	wants(t, "P15.5: no change, no power", v.Take(m), answer(m, 0))
	stateIs(t, "P15.5: no change", s, performing(plain("A")))
}

// TestNoRoom: what the store has no room for is refused alone, and the service goes on.
func TestNoRoom(t *testing.T) {
	v, s, d := served(t, scheduled("A", "B"))
	was := d.Image()
	d.Quota(0)
	m := create(1, "1.9", begun("A", "X^Y", long("a", 1000)))
	wants(t, "P15.5: no room", v.Take(m), answer(m, 0x110))
	stateIs(t, "P15.5: no room", s, scheduled("A", "B"))
	d.Quota(api.MaxBlocks)
	if !same(d.Image().Nodes, was.Nodes) {
		t.Error("P15.5: no room: the disk has changed")
	}
	wants(t, "P15.5: no room: an echo", v.Take(echo(2)), answer(echo(2), 0))
	wants(t, "P15.5: room again", v.Take(m), answer(m, 0))
	stateIs(t, "P15.5: room again", s, performing(begun("A", "X^Y", long("a", 1000))))
}

// TestPutFirst: behind an answer the disk has the change, whatever a cut leaves.
func TestPutFirst(t *testing.T) {
	v, _, d := served(t, scheduled("A", "B"))
	m := create(1, "1.9", plain("A"))
	wants(t, "P15.5", v.Take(m), answer(m, 0))
	d.Cut(api.PowerCut{})
	s, err := store.Open(d, 10)
	if err != nil {
		t.Fatal(err)
	}
	stateIs(t, "P15.5: behind a cut", s, performing(plain("A")))
}

// TestGet: what is told of a performed step, in both syntaxes.
func TestGet(t *testing.T) {
	row := begun("A", "X^Y", "all well")
	v, s, _ := served(t, performing(row))
	for _, context := range []uint8{7, 13} {
		m := get(context, 1, "1.9")
		wants(t, "P15.4: all", v.Take(m), withData(answer(m, 0), row))
		m = get(context, 1, "1.9", api.TagDoneStatus, api.TagPatientName)
		wants(t, "P15.4: some", v.Take(m), withData(answer(m, 0), el(api.TagPatientName, "X^Y"), el(api.TagDoneStatus, "IN PROGRESS")))
		m = get(context, 1, "1.9", api.TagStepAttributes)
		wants(t, "P15.4: a sequence", v.Take(m), withData(answer(m, 0), seq(api.TagStepAttributes, about("A"))))
		m = get(context, 1, "1.9", api.TagIssuer)
		wants(t, "P15.4: none", v.Take(m), withData(answer(m, 0)))
		m = get(context, 1, "1.8", api.TagDoneStatus)
		wants(t, "P15.4: no performed step", v.Take(m), answer(m, 0x112))
		m = get(context, 1, "1.9", api.TagDoneStatus, api.TagStudyUID, api.TagStepID)
		wants(t, "P15.4: no such attribute", v.Take(m), answer(m, 0x105, api.TagStudyUID, api.TagStepID))
	}
	stateIs(t, "P15.11", s, performing(row))
	isIdle(t, "behind it", v)
}

// TestGetText: text that is not ASCII is told as UTF-8, and says so.
func TestGetText(t *testing.T) {
	v, _, _ := served(t, performing(begun("A", "Müller", "Привет")))
	for _, context := range []uint8{7, 13} {
		m := get(context, 1, "1.9", api.TagPatientName, api.TagModality)
		wants(t, "P15.4", v.Take(m), withData(answer(m, 0), el(api.TagCharset, "ISO_IR 192"), el(api.TagModality, "CT"), el(api.TagPatientName, "Müller")))
		m = get(context, 1, "1.9", api.TagModality)
		wants(t, "P15.4: ASCII alone", v.Take(m), withData(answer(m, 0), el(api.TagModality, "CT")))
		m.Data = withData(m, el(api.TagCharset, "ISO_IR 100")).Data
		wants(t, "P15.4: bytes that are no data set name none", v.Take(m), withData(answer(m, 0), el(api.TagModality, "CT")))
	}
}

// TestGetNoSyntax: a data set without bytes, where the context has no syntax.
func TestGetNoSyntax(t *testing.T) {
	v, _, _ := served(t, performing(plain("A")))
	m := get(21, 1, "1.9")
	want := answer(m, 0)
	want.Cmd.HasData = true
	wants(t, "P15.4", v.Take(m), want)
	m = get(21, 1, "1.8")
	wants(t, "P15.4", v.Take(m), answer(m, 0x112))
}

// TestGetLong: a row with much text is told whole.
func TestGetLong(t *testing.T) {
	row := plain("A")
	items := [][]api.Node{}
	for i := range 4 {
		items = append(items, about(fmt.Sprint("Ä", i)))
	}
	row = list(row[:20], seq(api.TagStepAttributes, items...), el(api.TagComments, long("ß", 1024)), el(api.TagSeries, ""))
	v, s, _ := served(t, scheduled("A"))
	made := list(el(api.TagCharset, "ISO_IR 192"), row)
	m := create(1, "1.9", made)
	wants(t, "created", v.Take(m), answer(m, 0))
	for _, context := range []uint8{7, 13} {
		m := get(context, 1, "1.9")
		wants(t, "P15.4", v.Take(m), withData(answer(m, 0), made))
	}
	if p, _ := s.Perf("1.9"); !same(p.Data, row) {
		t.Error("P15.5: what is kept")
	}
}

// TestGetOdd: a row with bytes that no character set has is told without bytes.
func TestGetOdd(t *testing.T) {
	v, _, _ := served(t, performing(begun("A", "M\xFCller", "")))
	m := get(7, 1, "1.9", api.TagPatientName)
	want := answer(m, 0)
	want.Cmd.HasData = true
	wants(t, "P15.4", v.Take(m), want)
	m = get(7, 1, "1.9", api.TagPatientID)
	wants(t, "P15.4", v.Take(m), withData(answer(m, 0), el(api.TagPatientID, "7")))
}

// TestGetWaits: its attributes are those that it came with.
func TestGetWaits(t *testing.T) {
	v, _, _ := served(t, performing(plain("A")))
	first := find(1)
	v.Take(first)
	m := get(7, 2, "1.9", api.TagDoneStatus)
	wants(t, "it waits", v.Take(m))
	wants(t, "P15.8", v.Take(cancel(1)), answer(first, 0xFE00), withData(answer(m, 0), el(api.TagDoneStatus, "IN PROGRESS")))
}
