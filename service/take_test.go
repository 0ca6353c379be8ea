package service_test

import (
	"math"
	"slices"
	"testing"

	"modality/api"
	"modality/service"
	"modality/store"
)

var cFields = []uint16{api.CStore, api.CGet, api.CFind, api.CMove, api.CEcho}

var nFields = []uint16{api.NReport, api.NGet, api.NSet, api.NAction, api.NCreate, api.NDelete}

// TestNew: nothing runs and nothing waits; a number is the first context's that has it.
func TestNew(t *testing.T) {
	s, _ := storeIn(t, scheduled("A"))
	v := service.New(s, []api.Context{{Id: 1, Class: api.UIDVerify, Syntax: api.Implicit}, {Id: 1, Class: api.UIDWorklist, Syntax: api.Implicit}, {Id: 0, Class: api.UIDVerify}, {Id: 255, Class: api.UIDVerify}})
	isIdle(t, "a new one", v)
	wants(t, "P15.1: a turn of a new one", v.Turn())
	wants(t, "P15.1: the first context", v.Take(echo(1)), answer(echo(1), 0))
	m := find(2)
	m.Context = 1
	wants(t, "P15.1: the second context", v.Take(m), answer(m, 0x122))
	for _, id := range []uint8{0, 255} {
		m := echo(3)
		m.Context = id
		wants(t, "P15.1: any number", v.Take(m), answer(m, 0))
	}
	stateIs(t, "P15.1", s, scheduled("A"))
}

// TestNewBare: a service over nothing is one all the same.
func TestNewBare(t *testing.T) {
	for _, contexts := range [][]api.Context{nil, {}} {
		v := service.New(nil, contexts)
		aborts(t, "P15.2: no context at all", v.Take(echo(1)))
		aborts(t, "P15.2: no context at all", v.Take(cancel(1)))
		wants(t, "P15.9: nothing runs", v.Turn())
		isIdle(t, "no context at all", v)
	}
	for _, s := range []*store.Store{nil, {}} {
		v := service.New(s, agreed())
		wants(t, "no store: an echo", v.Take(echo(1)), answer(echo(1), 0))
		m := create(2, "1.9", plain("A"))
		wants(t, "P15.5: no store: it refuses", v.Take(m), answer(m, 0x110))
		m = get(7, 3, "1.9")
		wants(t, "no store: no performed step", v.Take(m), answer(m, 0x112))
		m = find(4)
		wants(t, "no store: a query", v.Take(m))
		tells(t, "no store", v, looks{Running: true, Owed: 1})
		wants(t, "no store: no step", v.Turn(), answer(m, 0))
	}
}

// TestNobody: a service that New did not make answers zero values, and stays as it is.
func TestNobody(t *testing.T) {
	for _, v := range []*service.Service{nil, {}} {
		for _, m := range []api.Message{{}, echo(1), find(2), cancel(2), ask(99, 0x8030, 1)} {
			wants(t, "nobody's", v.Take(m))
			wants(t, "nobody's", v.Turn())
			isIdle(t, "nobody's", v)
		}
	}
}

// TestContextUnknown: ahead of everything else, a C-CANCEL too.
func TestContextUnknown(t *testing.T) {
	v, _, _ := served(t, scheduled("A"))
	m := find(1)
	v.Take(m)
	v.Take(echo(2))
	was := lookAt(v)
	for id := range math.MaxUint8 + 1 {
		if contextOf(uint8(id)) != (api.Context{}) {
			continue
		}
		for _, m := range []api.Message{cancel(1), cancel(2), echo(1), echo(9), ask(1, 7, 9)} {
			m.Context = uint8(id)
			aborts(t, "P15.2: 1", v.Take(m))
		}
	}
	tells(t, "behind aborts", v, was)
	wants(t, "P15.2: behind aborts", v.Turn(), match(m, "A", "Doe^Jane"))
	wants(t, "P15.2: behind aborts", v.Turn(), answer(m, 0), answer(echo(2), 0))
}

// TestFields: every number is a request, a C-CANCEL, or a reason to abort.
func TestFields(t *testing.T) {
	v, _, _ := served(t, api.State{})
	for field := range math.MaxUint16 + 1 {
		m := echo(1)
		m.Cmd.Field = uint16(field)
		d := v.Take(m)
		switch {
		case slices.Contains(cFields, uint16(field)), slices.Contains(nFields, uint16(field)):
			if d.Abort || len(d.Send) != 1 || d.Send[0].Cmd.Field != uint16(field)|0x8000 {
				t.Fatalf("P15.2: the field %04x: %s", field, shown(d))
			}
		case field == api.CCancel:
			wants(t, "P15.2: 2: a C-CANCEL", d)
		default:
			aborts(t, "P15.2: 3: no request", d)
		}
	}
	isIdle(t, "behind all fields", v)
}

// TestFieldsInUse: what is no request aborts, whatever its Id.
func TestFieldsInUse(t *testing.T) {
	v, _, _ := served(t, scheduled("A"))
	v.Take(find(1))
	m := echo(1)
	m.Cmd.Field = 0x8030
	aborts(t, "P15.2: 3 is ahead of 5", v.Take(m))
	if !v.Running() {
		t.Error("P15.2: an abort has changed the service")
	}
}

// TestFull: a request that would be one too many aborts, ahead of a look at its Id.
func TestFull(t *testing.T) {
	v, _, _ := served(t, scheduled("A", "B"))
	m := find(1)
	v.Take(m)
	for id := range uint16(api.MaxQueue) {
		wants(t, "P15.2: 6: it waits", v.Take(echo(10+id)))
		if v.Queue() != int(id)+1 {
			t.Fatalf("P15.10: %d wait", v.Queue())
		}
	}
	was := lookAt(v)
	for _, m := range []api.Message{echo(30), echo(10), echo(17), echo(1), find(30), find(1), ask(15, api.NDelete, 31)} {
		aborts(t, "P15.2: 4", v.Take(m))
		tells(t, "full", v, was)
	}
	wants(t, "P15.2: 2 is ahead of 4", v.Take(cancel(10)))
	wants(t, "P15.2: 2 is ahead of 4", v.Take(cancel(99)))
	tells(t, "full", v, was)
	wants(t, "a turn", v.Turn(), match(m, "A", "Doe^Jane"))
	aborts(t, "P15.2: 4: still full", v.Take(echo(30)))
	wants(t, "a turn", v.Turn(), match(m, "B", "Doe^Jane"))
	all := []api.Message{answer(m, 0)}
	for id := range uint16(api.MaxQueue) {
		all = append(all, answer(echo(10+id), 0))
	}
	wants(t, "P15.8: all that waited", v.Turn(), all...)
	isIdle(t, "behind it", v)
}

// TestRepeated: an Id that is in use is told at once, and is free again behind its final answer.
func TestRepeated(t *testing.T) {
	v, s, _ := served(t, scheduled("A", "B"))
	running, waits, marked := find(1), set(2, "1.9", finish("COMPLETED")), findBy(9, 3, el(api.TagPatientID, ""))
	v.Take(running)
	v.Take(waits)
	v.Take(marked)
	v.Take(cancel(3))
	was := lookAt(v)
	for id := uint16(1); id <= 3; id++ {
		for _, field := range slices.Concat(cFields, nFields) {
			for context, class := range map[uint8]string{1: api.UIDVerify, 3: api.UIDWorklist, 5: "1.2.4", 15: ""} {
				m := api.Message{Context: context, Cmd: api.Cmd{Field: field, Class: class, Instance: "1.7", Id: id, HasData: true}, Data: []byte{1}}
				wants(t, "P15.2: 5", v.Take(m), answer(m, 0x210))
			}
		}
	}
	tells(t, "behind 0210H", v, was)
	if wants(t, "a turn", v.Turn(), match(running, "A", "Doe^Jane")); !v.Running() {
		t.Fatal("it runs no more")
	}
	wants(t, "P15.2: 5, ahead of the rest", v.Take(echo(1)), answer(echo(1), 0x210))
	v.Turn()
	wants(t, "P15.8", v.Turn(), answer(running, 0), answer(waits, 0x112), answer(marked, 0xFE00))
	for id := range uint16(4) {
		wants(t, "it is free again", v.Take(echo(id)), answer(echo(id), 0))
	}
	stateIs(t, "behind it", s, scheduled("A", "B"))
}

// TestIds: every number is an Id, 0 too.
func TestIds(t *testing.T) {
	v, _, _ := served(t, scheduled("A"))
	for _, id := range []uint16{0, 1, math.MaxUint16} {
		m := find(id)
		wants(t, "a query", v.Take(m))
		wants(t, "P15.2: 5", v.Take(echo(id)), answer(echo(id), 0x210))
		wants(t, "it waits", v.Take(echo(id^1)))
		wants(t, "P15.7: none", v.Take(cancel(id^2)))
		wants(t, "P15.7", v.Take(cancel(id)), answer(m, 0xFE00), answer(echo(id^1), 0))
	}
}

// TestAnswerForm: of all that a request's command has an answer has its class, its Id and, of the N- commands, its instance.
func TestAnswerForm(t *testing.T) {
	v, _, _ := served(t, scheduled("A"))
	for _, field := range slices.Concat(cFields, nFields) {
		for _, context := range []uint8{1, 3, 5, 7, 15} {
			m := ask(context, field, 77)
			m.Cmd.Class, m.Cmd.Instance = "1.2.77", "1.7"
			m.Cmd.To, m.Cmd.Priority, m.Cmd.Status, m.Cmd.ErrorId, m.Cmd.Comment = 1, 2, 3, 4, "why"
			m.Cmd.Offending, m.Cmd.Attrs, m.Cmd.HasData, m.Data = []api.Tag{1}, []api.Tag{2}, true, []byte{1, 2}
			want := api.Message{Context: context, Cmd: api.Cmd{Field: field | 0x8000, Class: "1.2.77", To: 77, Status: 0x122}}
			if slices.Contains(nFields, field) {
				want.Cmd.Instance, want.Cmd.Status = "1.7", 0x118
			}
			wants(t, "an answer's form", v.Take(m), want)
		}
	}
}
