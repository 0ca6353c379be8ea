package service_test

import (
	"testing"

	"modality/api"
	"modality/service"
)

// example is a service as the document's examples have it.
func example(t *testing.T) *service.Service {
	t.Helper()
	s, _ := storeIn(t, scheduled("A", "B"))
	return service.New(s, []api.Context{{Id: 1, Class: api.UIDVerify, Syntax: api.Implicit}, {Id: 3, Class: api.UIDWorklist, Syntax: api.Implicit}, {Id: 5, Class: api.UIDPerform, Syntax: api.Explicit}})
}

func TestExampleOne(t *testing.T) {
	v := example(t)
	m := api.Message{Context: 1, Cmd: api.Cmd{Field: api.CEcho, Class: api.UIDVerify, Id: 7}}
	wants(t, "an echo", v.Take(m), api.Message{Context: 1, Cmd: api.Cmd{Field: 0x8030, Class: api.UIDVerify, To: 7}})
	m.Cmd.Class = api.UIDWorklist
	wants(t, "another class", v.Take(m), api.Message{Context: 1, Cmd: api.Cmd{Field: 0x8030, Class: api.UIDWorklist, To: 7, Status: 0x122}})
	m.Context = 7
	aborts(t, "on context 7", v.Take(m))
	m = echo(7)
	m.Cmd.Field = 0x8030
	aborts(t, "an answer", v.Take(m))
	m.Cmd.Field, m.Cmd.HasData, m.Data = api.CStore, true, []byte{1}
	wants(t, "a C-STORE", v.Take(m), api.Message{Context: 1, Cmd: api.Cmd{Field: 0x8001, Class: api.UIDVerify, To: 7, Status: 0x211}})
	isIdle(t, "behind all that", v)
}

func TestExampleTwo(t *testing.T) {
	v := example(t)
	m := ask(3, api.CFind, 8)
	wants(t, "without a data set", v.Take(m), answer(m, 0x212))
	m.Cmd.HasData, m.Data = true, []byte{1, 2, 3}
	wants(t, "three bytes", v.Take(m), answer(m, 0xA900))
}

func TestExampleThree(t *testing.T) {
	v := example(t)
	m := find(9)
	wants(t, "a query", v.Take(m))
	if v.Owed() != 3 || !v.Running() {
		t.Fatalf("owed %d, running %v", v.Owed(), v.Running())
	}
	wants(t, "its Id", v.Take(echo(9)), answer(echo(9), 0x210))
	wants(t, "another", v.Take(echo(10)))
	if v.Queue() != 1 || v.Owed() != 4 {
		t.Fatalf("queue %d, owed %d", v.Queue(), v.Owed())
	}
	wants(t, "a turn", v.Turn(), match(m, "A", "Doe^Jane"))
	wants(t, "a second turn", v.Turn(), match(m, "B", "Doe^Jane"))
	wants(t, "a third turn", v.Turn(), answer(m, 0), answer(echo(10), 0))
}

func TestExampleFour(t *testing.T) {
	v := example(t)
	m := find(9)
	v.Take(m)
	v.Take(echo(10))
	v.Turn()
	wants(t, "cancelled", v.Take(cancel(9)), answer(m, 0xFE00), answer(echo(10), 0))
	wants(t, "cancelled again", v.Take(cancel(9)))
	isIdle(t, "behind it", v)
}

func TestExampleFive(t *testing.T) {
	v := example(t)
	first, second, third := find(11), find(12), set(13, "1.9", finish("COMPLETED"))
	v.Take(first)
	v.Take(second)
	v.Take(third)
	wants(t, "cancelled", v.Take(cancel(12)))
	wants(t, "no query", v.Take(cancel(13)))
	v.Turn()
	v.Turn()
	wants(t, "the third turn", v.Turn(), answer(first, 0), answer(second, 0xFE00), answer(third, 0x112))
}

func TestExampleSix(t *testing.T) {
	v := example(t)
	v.Take(find(1))
	for id := range uint16(8) {
		wants(t, "it waits", v.Take(echo(10+id)))
	}
	aborts(t, "a ninth", v.Take(echo(30)))
	wants(t, "a C-CANCEL of none", v.Take(cancel(10)))
	if d := v.Take(cancel(1)); len(d.Send) != 9 || d.Abort {
		t.Fatalf("a C-CANCEL: %s", shown(d))
	}
}
