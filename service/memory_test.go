package service_test

import (
	"slices"
	"testing"

	"modality/api"
	"modality/service"
)

// What is handed in has spare room with something in it; what is handed out is written over, spare room included.

func roomy[T any](list []T, room T) []T {
	return append(slices.Clone(list), room)[:len(list)]
}

// roomKept tells whether a list and the room behind it are as they were.
func roomKept[T any](list, was []T, room T) bool {
	return same(append([]T(nil), list...), append([]T(nil), was...)) && same(list[:len(list)+1][len(list)], room)
}

func smear[T any](list []T, with T) {
	for i := range list[:cap(list)] {
		list[:cap(list)][i] = with
	}
}

func roomyMessage(m api.Message) api.Message {
	m.Data = roomy(m.Data, 0x77)
	m.Cmd.Attrs = roomy(m.Cmd.Attrs, 0x77777777)
	m.Cmd.Offending = roomy(m.Cmd.Offending, 0x77777777)
	return m
}

func messageKept(m, was api.Message) bool {
	return roomKept(m.Data, was.Data, 0x77) && roomKept(m.Cmd.Attrs, was.Cmd.Attrs, 0x77777777) && roomKept(m.Cmd.Offending, was.Cmd.Offending, 0x77777777)
}

func smearMessage(m api.Message) {
	smear(m.Data, 0xEE)
	smear(m.Cmd.Attrs, 1)
	smear(m.Cmd.Offending, 1)
}

func smearDoing(d api.Doing) {
	for _, m := range d.Send {
		smearMessage(m)
	}
	smear(d.Send, api.Message{Context: 99})
}

// copied is an answer in memory of its own.
func copied(d api.Doing) api.Doing {
	var send []api.Message
	for _, m := range d.Send {
		m.Data = append([]byte(nil), m.Data...)
		m.Cmd.Offending = append([]api.Tag(nil), m.Cmd.Offending...)
		m.Cmd.Attrs = append([]api.Tag(nil), m.Cmd.Attrs...)
		send = append(send, m)
	}
	d.Send = send
	return d
}

// talk is a conversation with every kind of answer; a nil message is a turn.
func talk() []*api.Message {
	var all []*api.Message
	say := func(list ...api.Message) {
		for _, m := range list {
			m.Cmd.Offending = []api.Tag{3, 4}
			all = append(all, &m)
		}
	}
	turn := func(n int) { all = append(all, make([]*api.Message, n)...) }
	say(create(1, "1.9", begun("A", "X^Y", "so")), create(2, "1.8", nil), get(7, 3, "1.9"), get(13, 4, "1.9", api.TagModality, api.TagStudyUID))
	say(find(5), find(6), get(7, 7, "1.9", api.TagComments, api.TagModality), set(8, "1.9", list(el(api.TagComments, "far"))), get(7, 9, "1.9", api.TagComments))
	say(findBy(9, 10, el(api.TagCharset, "X")), findBy(3, 11, el(api.TagBirthDate, "1")), echo(5), findBy(9, 12, el(api.TagCharset, "ISO_IR 100"), wide()))
	turn(4)
	say(cancel(6), echo(20))
	turn(5)
	say(findBy(3, 13, bare(api.MaxNodes)), ask(1, api.CEcho, 14), ask(1, 7, 14), findBy(9, 15))
	turn(3)
	return all
}

func TestMemory(t *testing.T) {
	s, _ := storeIn(t, scheduled("A", "B"))
	twin, _ := storeIn(t, scheduled("A", "B"))
	contexts := roomy(agreed(), api.Context{Id: 99})
	v, w := service.New(s, contexts), service.New(twin, agreed())
	if !roomKept(contexts, agreed(), api.Context{Id: 99}) {
		t.Error("DOC.md, Memory: the contexts have changed")
	}
	smear(contexts, api.Context{Id: 1, Class: "smeared"})
	var kept []api.Doing
	var wanted []api.Doing
	for i, m := range talk() {
		if m == nil {
			kept, wanted = append(kept, v.Turn()), append(wanted, copied(w.Turn()))
		} else {
			handed := roomyMessage(*m)
			kept, wanted = append(kept, v.Take(handed)), append(wanted, copied(w.Take(*m)))
			if !messageKept(handed, *m) {
				t.Fatalf("DOC.md, Memory: %s has changed", shown(*m))
			}
			smearMessage(handed)
		}
		for j := range kept {
			if !same(kept[j], wanted[j]) {
				t.Fatalf("DOC.md, Memory: behind step %d the answer of step %d is %s, not %s", i, j, shown(kept[j]), shown(wanted[j]))
			}
		}
		if i%2 == 0 {
			for j := range kept {
				smearDoing(kept[j])
			}
			kept, wanted = nil, nil
		}
		if !same(s.State(), twin.State()) {
			t.Fatalf("DOC.md, Memory: the state is %s", shown(s.State()))
		}
	}
	isIdle(t, "behind it", v)
}

// TestMemoryApart: no two lists of one answer share memory.
func TestMemoryApart(t *testing.T) {
	v, _, _ := served(t, performing(plain("A")))
	v.Take(find(1))
	for id := range uint16(4) {
		v.Take(get(7, 10+id, "1.9", api.TagModality, api.TagPatientName))
		v.Take(get(7, 20+id, "1.9", api.TagStudyUID))
	}
	d := v.Take(cancel(1))
	for i := range d.Send {
		was := copied(d)
		smearMessage(d.Send[i])
		for j := range d.Send {
			if i != j && !same(d.Send[j], was.Send[j]) {
				t.Fatalf("DOC.md, Memory: the answers %d and %d share memory", i, j)
			}
		}
	}
}

// TestNil: a list without an element is nil.
func TestNil(t *testing.T) {
	v, _, _ := served(t, performing(plain("A")))
	check := func(what string, d api.Doing) {
		t.Helper()
		if d.Send != nil && len(d.Send) == 0 {
			t.Errorf("DOC.md: %s: Send is not nil", what)
		}
		for _, m := range d.Send {
			if m.Cmd.Attrs != nil || m.Cmd.Offending != nil && len(m.Cmd.Offending) == 0 || m.Data != nil && len(m.Data) == 0 {
				t.Errorf("DOC.md: %s: a list is not nil: %s", what, shown(m))
			}
		}
	}
	check("a turn", v.Turn())
	check("an echo", v.Take(echo(1)))
	check("no keys", v.Take(findBy(3, 2)))
	check("no keys", v.Turn())
	check("no keys", v.Turn())
	check("a turn", v.Turn())
	check("nothing told", v.Take(get(7, 3, "1.9", api.TagIssuer)))
	check("no syntax", v.Take(get(21, 3, "1.9")))
	check("an abort", v.Take(ask(99, 0, 0)))
	m := echo(4)
	m.Data, m.Cmd.Attrs, m.Cmd.Offending = []byte{}, []api.Tag{}, []api.Tag{}
	check("empty lists", v.Take(m))
}
