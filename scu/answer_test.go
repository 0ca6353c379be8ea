package scu_test

import (
	"slices"
	"testing"

	"modality/api"
	"modality/scu"
)

// asked is a scanner that has sent each kind of request: what waits is these Ids.
func asked(t *testing.T) *scu.Scanner {
	t.Helper()
	s := associated(t, 64)
	for _, d := range requests() {
		do(t, s, d)
	}
	isIn(t, "P17.2", s, waits(1, 2, 3, 4, 5))
	return s
}

func waits(ids ...uint16) api.ScuState {
	return api.ScuState{Sta: 6, Contexts: agreed(), Most: 64, Waiting: ids}
}

// waiting are the requests of asked: context, field, Id.
func waiting() []struct {
	context   uint8
	field, id uint16
} {
	return []struct {
		context   uint8
		field, id uint16
	}{{1, 0x30, 1}, {3, 0x20, 2}, {5, 0x140, 3}, {5, 0x120, 4}, {7, 0x110, 5}}
}

func without(ids []uint16, id uint16) []uint16 {
	return slices.DeleteFunc(slices.Clone(ids), func(x uint16) bool { return x == id })
}

// abortsAt: bytes make a scanner abort, and what waits goes on waiting.
func abortsAt(t *testing.T, what string, s *scu.Scanner, b []byte) {
	t.Helper()
	want := s.State()
	want.Sta = 13
	gives(t, what, s.Take(b), sendsPdu(aborting(0, 0)))
	isIn(t, what, s, want)
}

// TestAnswers: each kind of request has its final answer, in any order, whatever its status is (P17.4).
func TestAnswers(t *testing.T) {
	for _, status := range []uint16{0, 1, 0x110, 0x210, 0xA700, 0xB000, 0xFE00, 0xFEFF, 0xFF02, 0xFFFF} {
		for turn := range waiting() {
			s := asked(t)
			left := []uint16{1, 2, 3, 4, 5}
			for i := range waiting() {
				w := waiting()[(i*2+turn)%5]
				gives(t, "P17.4: an answer", s.Take(said(answer(w.context, w.field, w.id, status))), answers(api.ScuReply{Id: w.id, Field: w.field, Status: status}))
				left = without(left, w.id)
				if len(left) == 0 {
					left = nil
				}
				isIn(t, "P17.4: an answer", s, waits(left...))
			}
		}
	}
}

// TestAnswerFields: what an answer brings is told as it came (P17.4).
func TestAnswerFields(t *testing.T) {
	for _, w := range waiting() {
		for _, h := range []bool{false, true} {
			s := asked(t)
			m := answer(w.context, w.field, w.id, 0x120)
			m.Cmd.Class, m.Cmd.Instance, m.Cmd.ErrorId, m.Cmd.Comment = "1.2.9", "1.2.3", 0xA710, "why"
			m.Cmd.Offending, m.Cmd.Attrs = []api.Tag{3, 1, 1, 0xFFFFFFFF}, []api.Tag{7}
			want := api.ScuReply{Id: w.id, Field: w.field, Instance: "1.2.3", Status: 0x120, ErrorId: 0xA710, Offending: []api.Tag{3, 1, 1, 0xFFFFFFFF}}
			if h {
				m = withData(m, name("X"))
				want.HasData, want.Nodes = true, list(name("X"))
			}
			gives(t, "P17.4: an answer's fields", s.Take(said(m)), answers(want))
		}
	}
}

// TestAnswerData: a data set is read in the context's syntax and told in one form (P17.4).
func TestAnswerData(t *testing.T) {
	inside := list(el(api.TagModality, "CT"), name("Müller^Ł"), el(api.TagPatientID, "7"), seq(api.TagSteps, holding(el(api.TagStepDesc, "é"))))
	raw := map[string][]api.Node{
		"ISO_IR 192":       inside,
		`\ISO 2022 IR 101`: list(el(api.TagModality, "CT"), name("M\x1B-B\xFCller^\x1B-B\xA3"), el(api.TagPatientID, "7"), seq(api.TagSteps, holding(el(api.TagStepDesc, "\x1B-B\xE9")))),
		"ISO_IR 101":       list(el(api.TagModality, "CT"), name("M\xFCller^\xA3"), el(api.TagPatientID, "7"), seq(api.TagSteps, holding(el(api.TagStepDesc, "\xE9")))),
	}
	for _, w := range waiting() {
		for cs, nodes := range raw {
			s := asked(t)
			m := withData(answer(w.context, w.field, w.id, 0), append(list(el(api.TagCharset, cs)), nodes...)...)
			gives(t, "P17.4: text in "+cs, s.Take(said(m)), answers(api.ScuReply{Id: w.id, Field: w.field, HasData: true, Nodes: inside}))
		}
		s := asked(t)
		gives(t, "P17.4: a data set without elements", s.Take(said(withData(answer(w.context, w.field, w.id, 0)))), answers(api.ScuReply{Id: w.id, Field: w.field, HasData: true}))
	}
}

// TestPending: a C-FIND alone has pending answers, as many as come (P17.4, P17.7).
func TestPending(t *testing.T) {
	for _, status := range []uint16{0xFF00, 0xFF01} {
		for _, w := range waiting() {
			s := asked(t)
			if w.field != 0x20 {
				abortsAt(t, "P17.4: a pending answer", s, said(answer(w.context, w.field, w.id, status)))
				continue
			}
			for range 300 {
				gives(t, "P17.4: a pending answer", s.Take(said(withData(answer(3, 0x20, 2, status), name("X")))), answers(api.ScuReply{Id: 2, Field: 0x20, Status: status, HasData: true, Nodes: list(name("X"))}))
				isIn(t, "P17.4: a pending answer", s, waits(1, 2, 3, 4, 5))
			}
			gives(t, "P17.4: a pending answer without data", s.Take(said(answer(3, 0x20, 2, status))), answers(api.ScuReply{Id: 2, Field: 0x20, Status: status}))
			gives(t, "P17.4: the final one", s.Take(said(answer(3, 0x20, 2, 0))), answers(api.ScuReply{Id: 2, Field: 0x20}))
			isIn(t, "P17.4: the final one", s, waits(1, 3, 4, 5))
			abortsAt(t, "P17.7: behind the final one", s, said(answer(3, 0x20, 2, status)))
		}
	}
}

// TestNoAnswer: a message that is no answer to a request that waits (P17.4).
func TestNoAnswer(t *testing.T) {
	fields := []uint16{1, 0x10, 0x20, 0x21, 0x30, 0x100, 0x110, 0x120, 0x130, 0x140, 0x150}
	for _, w := range waiting() {
		for _, id := range []uint16{0, 6, 0xFFFF, w.id + 256} {
			abortsAt(t, "P17.4: an Id that does not wait", asked(t), said(answer(w.context, w.field, id, 0)))
		}
		for _, field := range fields {
			for _, other := range waiting() {
				s := asked(t)
				b := said(answer(w.context, field, other.id, 0))
				if field != other.field || w.context != other.context {
					abortsAt(t, "P17.4: another command", s, b)
				} else {
					gives(t, "P17.4: an answer", s.Take(b), answers(api.ScuReply{Id: other.id, Field: field}))
				}
			}
		}
		for _, c := range agreed() {
			if c.Id != w.context {
				abortsAt(t, "P17.4: another context", asked(t), said(answer(c.Id, w.field, w.id, 0)))
			}
		}
	}
}

// TestAskedBack: requests of the server are no answers, also where an Id 0 waits (P17.4).
func TestAskedBack(t *testing.T) {
	for _, c := range []api.Cmd{
		{Field: 0x30, Class: api.UIDVerify, Id: 7},
		{Field: 0x20, Class: api.UIDWorklist, Id: 7},
		{Field: 0x100, Class: api.UIDPerform, Instance: "1.2", Id: 7},
		{Field: 0xFFF, To: 0},
		{Field: 0xFFF, To: 7},
	} {
		s := associated(t, 64)
		do(t, s, echo(0))
		do(t, s, echo(7))
		abortsAt(t, "P17.4: a request comes", s, said(api.Message{Context: 1, Cmd: c}))
	}
}

// TestJoiner: fragments that are no message (P17.4).
func TestJoiner(t *testing.T) {
	good := fragments(withData(answer(3, 0x20, 2, 0), name("X")), 16000)
	command, data := good[0], good[1]
	other := command
	other.Context = 15
	elsewhere := data
	elsewhere.Context = 9
	spoilt := command
	spoilt.Data = append([]byte{1}, command.Data[1:]...)
	long := api.Pdv{Context: 3, Command: true, Data: make([]byte, 4097)}
	for _, x := range []struct {
		what   string
		values []api.Pdv
	}{
		{"a context that is not agreed", []api.Pdv{other}},
		{"data without a command", []api.Pdv{data}},
		{"a command where data are awaited", []api.Pdv{command, command}},
		{"data in another context", []api.Pdv{command, elsewhere}},
		{"a command that is none", []api.Pdv{spoilt}},
		{"a command that is too long", []api.Pdv{long}},
	} {
		s := asked(t)
		abortsAt(t, "P17.4: "+x.what, s, dataPdu(x.values...))
		s = asked(t)
		for _, v := range x.values[:len(x.values)-1] {
			gives(t, "P17.4: "+x.what, s.Take(dataPdu(v)))
		}
		abortsAt(t, "P17.4: "+x.what, s, dataPdu(x.values[len(x.values)-1]))
	}
	s := asked(t)
	gives(t, "P17.4: a whole answer", s.Take(dataPdu(good...)), answers(api.ScuReply{Id: 2, Field: 0x20, HasData: true, Nodes: list(name("X"))}))
}

// TestDataLimit: an answer's data set has at most MaxData bytes (P17.4).
func TestDataLimit(t *testing.T) {
	m := withData(answer(3, 0x20, 2, 0), filled(t, 65536, api.Implicit)...)
	s := asked(t)
	gives(t, "P17.4: MaxData bytes", s.Take(said(m)), answers(api.ScuReply{Id: 2, Field: 0x20, HasData: true, Nodes: filled(t, 65536, api.Implicit)}))
	m = withData(answer(3, 0x20, 2, 0), filled(t, 65538, api.Implicit)...)
	abortsAt(t, "P17.4: more bytes", asked(t), said(m))
}

// TestAnswerSpoilt: a data set that can't be read, or whose text can't (P17.4).
func TestAnswerSpoilt(t *testing.T) {
	for _, w := range waiting() {
		for _, b := range [][]byte{{1}, {8, 0, 0x60, 0, 4, 0, 0, 0, 'C', 'T'}, make([]byte, 8), {8, 0, 0x60, 0, 'X', 'X', 2, 0, 'C', 'T'}} {
			m := answer(w.context, w.field, w.id, 0)
			m.Cmd.HasData, m.Data = true, b
			abortsAt(t, "P17.4: no data set", asked(t), said(m))
		}
		for _, nodes := range [][]api.Node{
			list(el(api.TagCharset, "ISO_IR 13"), name("X")),
			list(name("\xFC")),
			list(el(api.TagCharset, "ISO_IR 192"), name("\xFC")),
			list(seq(api.TagSteps, holding(el(api.TagCharset, "x")))),
		} {
			abortsAt(t, "P17.4: no text", asked(t), said(withData(answer(w.context, w.field, w.id, 0), nodes...)))
		}
	}
	explicit := withData(answer(5, 0x140, 3, 0), name("X"))
	implicit := withData(answer(3, 0x20, 2, 0), name("X"))
	explicit.Data, implicit.Data = implicit.Data, explicit.Data
	abortsAt(t, "P17.4: the other syntax", asked(t), said(explicit))
	s := asked(t)
	if outs := s.Take(said(implicit)); same(outs, []api.ScuOut{answers(api.ScuReply{Id: 2, Field: 0x20, HasData: true, Nodes: list(name("X"))})}) {
		t.Error("P17.4: the other syntax is read")
	}
}

// TestNothingMore: behind what makes the scanner abort nothing of the PDU is looked at, and no answer is told any more (P17.4).
func TestNothingMore(t *testing.T) {
	one := func(m api.Message) api.Pdv { return fragments(m, 16000)[0] }
	echoed, wrong, created := one(answer(1, 0x30, 1, 0)), one(answer(1, 0x30, 77, 0)), one(answer(5, 0x140, 3, 0))
	for _, bad := range []api.Pdv{wrong, {Context: 15, Command: true, Last: true}} {
		s := asked(t)
		want := waits(2, 3, 4, 5)
		want.Sta = 13
		gives(t, "P17.4: nothing more", s.Take(dataPdu(echoed, bad, created, bad)), answers(api.ScuReply{Id: 1, Field: 0x30}), sendsPdu(aborting(0, 0)))
		isIn(t, "P17.4: nothing more", s, want)
		gives(t, "P17.4: nothing more", s.Take(dataPdu(created)))
		isIn(t, "P17.4: nothing more", s, want)
	}
	s := asked(t)
	do(t, s, kind(api.DoRelease))
	gives(t, "P17.4: in Sta7", s.Take(dataPdu(echoed, wrong, created)), answers(api.ScuReply{Id: 1, Field: 0x30}), sendsPdu(aborting(0, 0)))
	gives(t, "P17.4: a timer runs then", do(t, s, ticks(5)), shuts())
}

// TestTogether: several messages in one PDU, and one in many (P17.4).
func TestTogether(t *testing.T) {
	var values []api.Pdv
	var want []api.ScuOut
	for _, w := range waiting() {
		values = append(values, fragments(withData(answer(w.context, w.field, w.id, 0), name("X")), 7)...)
		want = append(want, answers(api.ScuReply{Id: w.id, Field: w.field, HasData: true, Nodes: list(name("X"))}))
	}
	s := asked(t)
	gives(t, "P17.4: in one PDU", s.Take(dataPdu(values...)), want...)
	isIn(t, "P17.4: in one PDU", s, waits())
	s = asked(t)
	var outs []api.ScuOut
	for _, v := range values {
		outs = append(outs, s.Take(dataPdu(v))...)
	}
	gives(t, "P17.4: in many PDUs", outs, want...)
	s = asked(t)
	outs = nil
	for len(values) > 0 {
		n := min(3, len(values))
		outs = append(outs, s.Take(dataPdu(values[:n]...))...)
		values = values[n:]
	}
	gives(t, "P17.4: a PDU ends in the midst of a message", outs, want...)
}

// TestState: the state is told, rising by Ids, and not changed by telling (P17.6).
func TestState(t *testing.T) {
	s := associated(t, 64)
	var want []uint16
	for i := range 400 {
		id := uint16(i * 40503)
		do(t, s, echo(id))
		want = append(want, id)
		slices.Sort(want)
		isIn(t, "P17.6", s, waits(want...))
	}
	for len(want) > 0 {
		id := want[len(want)/2]
		s.Take(said(answer(1, 0x30, id, 0)))
		want = without(want, id)
		if len(want) == 0 {
			want = nil
		}
		isIn(t, "P17.6", s, waits(want...))
	}
}
