package service_test

import (
	"testing"

	"modality/api"
)

// TestSchedule: a query sees the steps that are scheduled or started, rising by ID.
func TestSchedule(t *testing.T) {
	st := api.State{Steps: []api.Step{row("A", 4), row("B", 1), row("C", 2), row("D", 3), row("E", 1), row("F", 2), row("G", 4)}}
	v, s, _ := served(t, st)
	m := find(1)
	wants(t, "P15.6", v.Take(m))
	for _, id := range []string{"B", "C", "E", "F"} {
		wants(t, "P15.6", v.Turn(), match(m, id, "Doe^Jane"))
	}
	wants(t, "P15.6: the final one", v.Turn(), answer(m, 0))
	wants(t, "P15.9: nothing", v.Turn())
	stateIs(t, "P15.11", s, st)
}

// TestNoMatch: a query without a match runs too.
func TestNoMatch(t *testing.T) {
	v, _, _ := served(t, scheduled("A", "B"))
	m := findBy(3, 1, el(api.TagPatientID, "8"))
	wants(t, "P15.6: none", v.Take(m))
	tells(t, "none", v, looks{Running: true, Owed: 1})
	wants(t, "P15.9", v.Turn(), answer(m, 0))
	isIdle(t, "behind it", v)
	v, _, _ = served(t, api.State{})
	m = find(2)
	wants(t, "P15.6: no steps", v.Take(m))
	wants(t, "P15.9", v.Turn(), answer(m, 0))
}

// TestSomeMatch: keys restrict, and tell what is told.
func TestSomeMatch(t *testing.T) {
	st := scheduled("A", "B", "C")
	st.Steps[1].Modality, st.Steps[2].PatientID = "MR", "8"
	v, _, _ := served(t, st)
	for _, context := range []uint8{3, 9} {
		m := findBy(context, 1, el(api.TagPatientID, "7"), seq(api.TagSteps, holding(el(api.TagModality, "CT"), el(api.TagStepStatus, ""))))
		wants(t, "P15.6", v.Take(m))
		wants(t, "P15.6", v.Turn(), withData(answer(m, 0xFF00), el(api.TagPatientID, "7"), seq(api.TagSteps, holding(el(api.TagModality, "CT"), el(api.TagStepStatus, "SCHEDULED")))))
		wants(t, "P15.6", v.Turn(), answer(m, 0))
	}
}

// TestWarned: pending answers say that a key is not looked at; the final one does not.
func TestWarned(t *testing.T) {
	v, _, _ := served(t, scheduled("A", "B"))
	m := findBy(3, 1, el(api.TagModality, "MR"), el(api.TagPatientID, ""))
	wants(t, "P15.6", v.Take(m))
	for range 2 {
		wants(t, "P15.6: warned", v.Turn(), withData(answer(m, 0xFF01), el(api.TagModality, ""), el(api.TagPatientID, "7")))
	}
	wants(t, "P15.6: the final one", v.Turn(), answer(m, 0))
}

// TestQueryRefused: keys that may not be asked for are told at once.
func TestQueryRefused(t *testing.T) {
	v, _, _ := served(t, scheduled("A"))
	m := findBy(3, 1, el(api.TagBirthDate, "2026"))
	wants(t, "P15.6: no day", v.Take(m), answer(m, 0xA900, api.TagBirthDate))
	m = findBy(3, 1, seq(api.TagSteps, holding(), holding()))
	wants(t, "P15.6: two items", v.Take(m), answer(m, 0xA900, api.TagSteps))
	isIdle(t, "behind it", v)
	first := find(1)
	v.Take(first)
	m = findBy(9, 2, el(api.TagBirthDate, "2026"))
	wants(t, "it waits", v.Take(m))
	wants(t, "P15.8", v.Take(cancel(1)), answer(first, 0xFE00), answer(m, 0xA900, api.TagBirthDate))
	isIdle(t, "behind it", v)
}

// TestQueryText: an answer is in the set that the request's own top level named; in UTF-8, if that can't say it.
func TestQueryText(t *testing.T) {
	st := api.State{Steps: []api.Step{named("A", "Doe^Jane"), named("B", "Müller"), named("C", "Łukasz")}}
	v, _, _ := served(t, st)
	utf := func(name string) []api.Node {
		return list(el(api.TagCharset, "ISO_IR 192"), el(api.TagPatientName, name))
	}
	name := el(api.TagPatientName, "")
	for what, x := range map[string]struct {
		keys    []api.Node
		answers [3][]api.Node
	}{
		"none":  {list(name), [3][]api.Node{list(el(api.TagPatientName, "Doe^Jane")), utf("Müller"), utf("Łukasz")}},
		"empty": {list(el(api.TagCharset, ""), name), [3][]api.Node{list(el(api.TagPatientName, "Doe^Jane")), utf("Müller"), utf("Łukasz")}},
		"ASCII": {list(el(api.TagCharset, "ISO_IR 6"), name), [3][]api.Node{list(el(api.TagPatientName, "Doe^Jane")), utf("Müller"), utf("Łukasz")}},
		"100": {list(el(api.TagCharset, "ISO_IR 100"), name), [3][]api.Node{list(el(api.TagCharset, "ISO_IR 100"), el(api.TagPatientName, "Doe^Jane")),
			list(el(api.TagCharset, "ISO_IR 100"), el(api.TagPatientName, "M\xFCller")), utf("Łukasz")}},
		"192": {list(el(api.TagCharset, "ISO_IR 192"), name), [3][]api.Node{utf("Doe^Jane"), utf("Müller"), utf("Łukasz")}},
		"several": {list(el(api.TagCharset, ` \ISO 2022 IR 101`), name), [3][]api.Node{
			list(el(api.TagCharset, `ISO 2022 IR 6\ISO 2022 IR 101`), el(api.TagPatientName, "Doe^Jane")),
			list(el(api.TagCharset, `ISO 2022 IR 6\ISO 2022 IR 101`), el(api.TagPatientName, "M\x1B-B\xFCller")),
			list(el(api.TagCharset, `ISO 2022 IR 6\ISO 2022 IR 101`), el(api.TagPatientName, "\x1B-B\xA3ukasz"))}},
	} {
		for _, context := range []uint8{3, 9} {
			m := asking(context, api.CFind, 1, "", x.keys)
			wants(t, "P15.6: "+what, v.Take(m))
			for _, nodes := range x.answers {
				wants(t, "P15.6: "+what, v.Turn(), withData(answer(m, 0xFF00), nodes))
			}
			wants(t, "P15.6: "+what, v.Turn(), answer(m, 0))
		}
	}
}

// TestQueryTextInside: the set that an item names is not the request's own, wherever its sequence stands.
func TestQueryTextInside(t *testing.T) {
	v, _, _ := served(t, api.State{Steps: []api.Step{named("A", "Müller")}})
	early := api.Tag(0x00040004)
	inner := holding(api.Node{Tag: 0x00040006, VR: api.VRLO}, el(api.TagCharset, "ISO_IR 100"), el(api.TagPatientName, ""))
	m := findBy(9, 1, seq(early, inner, inner), el(api.TagPatientName, ""), seq(api.TagSteps, holding(el(api.TagCharset, "ISO_IR 101"), el(api.TagStepID, ""))))
	told := list(el(api.TagCharset, "ISO_IR 192"), el(api.TagPatientName, "Müller"), seq(api.TagSteps, holding(el(api.TagStepID, "A"))))
	wants(t, "P15.6", v.Take(m))
	wants(t, "P15.6: none named", v.Turn(), withData(answer(m, 0xFF00), api.Node{Tag: early, VR: api.VRSQ}, told))
	v.Turn()
	deep := list(seq(0x00040004, holding(seq(0x00040005, inner), el(api.TagPatientName, ""))), el(api.TagCharset, "ISO_IR 148"))
	m = findBy(9, 2, deep, el(api.TagPatientName, ""))
	wants(t, "P15.6", v.Take(m))
	wants(t, "P15.6: behind a sequence", v.Turn(), withData(answer(m, 0xFF00), api.Node{Tag: early, VR: api.VRSQ}, el(api.TagCharset, "ISO_IR 148"), el(api.TagPatientName, "M\xFCller")))
}

// TestQueryKeysText: keys are read in the set that they name.
func TestQueryKeysText(t *testing.T) {
	v, _, _ := served(t, api.State{Steps: []api.Step{named("A", "Müller"), named("B", "Mueller")}})
	for term, key := range map[string]string{"ISO_IR 100": "M\xFC*", "ISO_IR 192": "Mü*"} {
		m := findBy(3, 1, el(api.TagCharset, term), el(api.TagPatientName, key), seq(api.TagSteps, holding(el(api.TagStepID, ""))))
		v.Take(m)
		if v.Owed() != 2 {
			t.Fatalf("P15.6: %s: owed %d", term, v.Owed())
		}
		v.Take(cancel(1))
	}
}

// TestMoment: a query's answers are those of the moment at which it was begun.
func TestMoment(t *testing.T) {
	v, s, _ := served(t, scheduled("A", "B"))
	first, second := find(1), find(2)
	v.Take(first)
	v.Take(second)
	m := create(3, "1.9", plain("A"))
	v.Take(m)
	third := findBy(3, 4, seq(api.TagSteps, holding(el(api.TagStepID, ""), el(api.TagStepStatus, ""))))
	v.Take(third)
	if code, _, err := s.Order(api.Order{Control: "M1", Verb: api.OrderCancel, IDs: []string{"B"}}); code != "AA" || err != nil {
		t.Fatal(code, err)
	}
	if code, _, err := s.Order(api.Order{Control: "M2", Verb: api.OrderNew, Steps: []api.Step{named("0", "New")}}); code != "AA" || err != nil {
		t.Fatal(code, err)
	}
	wants(t, "P15.11: the first", v.Turn(), match(first, "A", "Doe^Jane"))
	wants(t, "P15.11: the first", v.Turn(), match(first, "B", "Doe^Jane"))
	wants(t, "P15.11: the second is begun", v.Turn(), answer(first, 0))
	if code, _, err := s.Order(api.Order{Control: "M3", Verb: api.OrderCancel, IDs: []string{"0"}}); code != "AA" || err != nil {
		t.Fatal(code, err)
	}
	wants(t, "P15.11: the second", v.Turn(), match(second, "0", "New"))
	wants(t, "P15.11: the second", v.Turn(), match(second, "A", "Doe^Jane"))
	wants(t, "P15.11: the second", v.Turn(), answer(second, 0), answer(m, 0))
	wants(t, "P15.11: the third", v.Turn(), withData(answer(third, 0xFF00), seq(api.TagSteps, holding(el(api.TagStepID, "A"), el(api.TagStepStatus, "STARTED")))))
	wants(t, "P15.11: the third", v.Turn(), answer(third, 0))
}

// TestManyNodes: an answer has room for its (0008,0005).
func TestManyNodes(t *testing.T) {
	v, _, _ := served(t, scheduled("A"))
	for _, context := range []uint8{3, 9} {
		m := findBy(context, 1, bare(api.MaxNodes-1))
		wants(t, "P15.6: at the limit", v.Take(m))
		wants(t, "P15.6: at the limit", v.Turn(), withData(answer(m, 0xFF00), bare(api.MaxNodes-1)))
		v.Turn()
		m = findBy(context, 2, el(api.TagCharset, "ISO_IR 192"), bare(api.MaxNodes-1))
		wants(t, "P15.6: at the limit, with a set", v.Take(m))
		wants(t, "P15.6: at the limit, with a set", v.Turn(), withData(answer(m, 0xFF00), el(api.TagCharset, "ISO_IR 192"), bare(api.MaxNodes-1)))
		v.Turn()
		m = findBy(context, 3, bare(api.MaxNodes))
		wants(t, "P15.6: one node more", v.Take(m), answer(m, 0xA700))
		m = findBy(context, 4, el(api.TagSteps, ""), bare(api.MaxNodes-1-11))
		wants(t, "P15.6: one more by what is told of a step", v.Take(m), answer(m, 0xA700))
		m = findBy(context, 5, el(api.TagSteps, ""), bare(api.MaxNodes-1))
		wants(t, "P15.6: more than there may be", v.Take(m), answer(m, 0xA700))
		m = findBy(context, 6, el(api.TagSteps, ""), bare(api.MaxNodes-1-12))
		wants(t, "P15.6: at the limit, with what is told of a step", v.Take(m))
		v.Take(cancel(6))
		m = findBy(context, 7, el(api.TagPatientID, "8"), bare(api.MaxNodes-1))
		wants(t, "P15.6: no answer is too great, if there is none", v.Take(m))
		wants(t, "P15.9", v.Turn(), answer(m, 0))
	}
	isIdle(t, "behind it", v)
}

// TestManyBytes: all answers together keep to the limit, in one form, whatever the syntax and the set.
func TestManyBytes(t *testing.T) {
	const count = 64
	keys := list(el(api.TagAccession, ""), bare(api.MaxAnswers/count/8-1))
	at, above := many(count), many(count)
	above.Steps[count-1].Accession = "1"
	gone := many(count + 1)
	gone.Steps[count].Status = api.StepCompleted
	for _, context := range []uint8{3, 9} {
		for _, term := range []string{"", "ISO_IR 192"} {
			asked := keys
			if term != "" {
				asked = list(el(api.TagCharset, term), keys)
			}
			m := findBy(context, 1, asked)
			v, _, _ := served(t, above)
			wants(t, "P15.6: two bytes more", v.Take(m), answer(m, 0xA700))
			isIdle(t, "P15.6: two bytes more", v)
			for _, st := range []api.State{at, gone} {
				v, _, _ := served(t, st)
				wants(t, "P15.6: at the limit", v.Take(m))
				tells(t, "at the limit", v, looks{Running: true, Owed: count + 1, Held: api.MaxAnswers})
				wants(t, "P15.6: at the limit", v.Turn(), withData(answer(m, 0xFF00), asked))
			}
			v, _, _ = served(t, many(count+1))
			wants(t, "P15.6: one step more", v.Take(m), answer(m, 0xA700))
		}
	}
}

// TestTooMuchWaits: it is refused when it is begun.
func TestTooMuchWaits(t *testing.T) {
	v, _, _ := served(t, scheduled("A"))
	first, second := find(1), findBy(3, 2, bare(api.MaxNodes))
	v.Take(first)
	wants(t, "it waits", v.Take(second))
	v.Turn()
	wants(t, "P15.8", v.Turn(), answer(first, 0), answer(second, 0xA700))
	isIdle(t, "behind it", v)
}

// TestManySteps: the greatest schedule is told whole, in as many turns as are owed.
func TestManySteps(t *testing.T) {
	v, _, _ := served(t, many(api.MaxSteps))
	m := find(1)
	v.Take(m)
	if v.Owed() != api.MaxSteps+1 {
		t.Fatalf("P15.10: owed %d", v.Owed())
	}
	for _, s := range many(api.MaxSteps).Steps {
		wants(t, "P15.6", v.Turn(), match(m, s.ID, "Doe^Jane"))
	}
	wants(t, "P15.6", v.Turn(), answer(m, 0))
	isIdle(t, "behind it", v)
}

// TestTwoServices: services that share a store share nothing else.
func TestTwoServices(t *testing.T) {
	v, s, _ := served(t, scheduled("A", "B"))
	w := newOver(s)
	m := find(1)
	wants(t, "the one", v.Take(m))
	wants(t, "the other: the same Id", w.Take(echo(1)), answer(echo(1), 0))
	wants(t, "the other: a C-CANCEL", w.Take(cancel(1)))
	wants(t, "the other: a turn", w.Turn())
	c := create(2, "1.9", plain("A"))
	wants(t, "the other: an N-CREATE", w.Take(c), answer(c, 0))
	wants(t, "the one", v.Turn(), match(m, "A", "Doe^Jane"))
	wants(t, "the one: what the other has made", v.Take(get(7, 3, "1.9", api.TagModality)))
	v.Turn()
	g := get(7, 3, "1.9", api.TagModality)
	wants(t, "the one: what the other has made", v.Turn(), answer(m, 0), withData(answer(g, 0), el(api.TagModality, "CT")))
}
