package scu_test

import (
	"fmt"
	"math/rand/v2"
	"slices"
	"strings"
	"testing"

	"modality/api"
	"modality/dataset"
	"modality/scu"
)

func one[T any](r *rand.Rand, list ...T) T { return list[r.IntN(len(list))] }

func randomConfig(r *rand.Rand) api.ScuConfig {
	c := api.ScuConfig{Title: one(r, "CT1", "A B"), Called: "RIS", Most: one[uint32](r, 0, 64, 20000), Artim: 1 + r.IntN(5)}
	c.Syntaxes = one(r, []api.Syntax{api.Implicit}, []api.Syntax{api.Explicit}, []api.Syntax{api.Implicit, api.Explicit}, []api.Syntax{api.Explicit, api.Implicit})
	for range 1 + r.IntN(9) {
		c.Classes = append(c.Classes, one(r, api.UIDVerify, api.UIDWorklist, api.UIDWorklist, api.UIDPerform, api.UIDPerform, api.UIDRetrieve, "1.2.3"))
	}
	return c
}

// randomNodes is a data set, seldom one that may not be.
func randomNodes(r *rand.Rand) []api.Node {
	nodes := list(name(one(r, "Doe^Jane", "Müller", "Łukasz^É", "Иван", "")), el(api.TagPatientID, one(r, "", "7")))
	if r.IntN(3) == 0 {
		nodes = append(nodes, seq(api.TagSteps, holding(el(api.TagStepDesc, one(r, "é", "Я", "x"))), holding())...)
	}
	if r.IntN(6) == 0 {
		nodes = append(nodes, api.Node{Tag: 0x00511001, VR: api.VRUN, Value: strings.Repeat("ab", one(r, 0, 1, 60, 30000))})
		nodes = append(nodes, api.Node{Tag: 0x00511002, VR: api.VRUN, Value: strings.Repeat("ab", one(r, 0, 0, 5000))})
	}
	switch r.IntN(30) {
	case 0:
		nodes[r.IntN(len(nodes))].N = one(r, -1, 1, 3)
	case 1:
		nodes[r.IntN(len(nodes))].Value = "\xFF"
	case 2:
		nodes[r.IntN(len(nodes))].Tag = one(r, api.TagCharset, api.Tag(0), api.TagItem)
	case 3:
		nodes = nil
	}
	return nodes
}

func randomSet(r *rand.Rand) string {
	return one(r, "", "", "ISO_IR 100", "ISO_IR 101", "ISO_IR 144", "ISO_IR 192", `\ISO 2022 IR 101`, `ISO 2022 IR 100\ISO 2022 IR 144`, "ISO_IR 13")
}

func randomRequest(r *rand.Rand) api.ScuDo {
	d := api.ScuDo{Kind: one(r, api.DoEcho, api.DoFind, api.DoFind, api.DoCancel, api.DoCreate, api.DoSet, api.DoGet), Id: uint16(r.IntN(12))}
	d.UID = one(r, "1.2.3", "1.2.3", "1.2.3", "1.2.3", "", "1.02")
	d.Nodes, d.Charset, d.Count = randomNodes(r), randomSet(r), r.IntN(3)-1
	d.Attrs = make([]api.Tag, one(r, 0, 0, 1, 3, 1100))
	return d
}

// randomAnswer is a message that comes: mostly an answer to a request that waits.
func randomAnswer(r *rand.Rand, m *model) api.Message {
	if len(m.waits) == 0 {
		return answer(one[uint8](r, 1, 3, 5), one[uint16](r, 0x20, 0x30), uint16(r.IntN(12)), 0)
	}
	w := m.waits[r.IntN(len(m.waits))]
	a := answer(w.context.Id, w.field, w.id, one[uint16](r, 0, 0, 0x110, 0xA900, 0xFE00, 0xFF02))
	if w.field == 0x20 && r.IntN(2) == 0 {
		a.Cmd.Status = one[uint16](r, 0xFF00, 0xFF01)
	}
	a.Cmd.Instance, a.Cmd.ErrorId, a.Cmd.Comment = one(r, "", "1.2"), one[uint16](r, 0, 0xA710), one(r, "", "why")
	a.Cmd.Offending = make([]api.Tag, one(r, 0, 0, 2))
	if r.IntN(2) == 0 {
		a.Cmd.HasData = true
		a.Data, _ = dataset.Encode(slices.Concat(one(r, nil, nil, list(el(api.TagCharset, randomSet(r)))), randomPlain(r)), w.context.Syntax)
	}
	switch r.IntN(150) {
	case 0:
		a.Cmd.To = uint16(r.IntN(12))
	case 1:
		a.Cmd.Field = 0x8000 + one[uint16](r, 0x20, 0x30, 0x110, 0x120, 0x140)
	case 2:
		a.Context = one[uint8](r, 1, 3, 5, 7, 9, 11, 13, 15, 17)
	case 3:
		a.Cmd.Status = 0xFF00
	case 4:
		a.Cmd.HasData, a.Data = true, []byte{1, 2, 3}
	case 5:
		a.Cmd = api.Cmd{Field: 0x30, Class: api.UIDVerify, Id: w.id}
		a.Data = nil
	}
	return a
}

// randomPlain is a data set whose texts are ASCII, or of Latin-1.
func randomPlain(r *rand.Rand) []api.Node {
	return list(name(one(r, "Doe^Jane", "X", "X", "X", "M\xFCller", "")), el(api.TagPatientID, strings.Repeat("7", r.IntN(200))))
}

// randomPdus is messages in PDUs, several in one or one in several; seldom with a byte spoilt, or without its end.
func randomPdus(r *rand.Rand, messages ...api.Message) []byte {
	var values []api.Pdv
	for _, m := range messages {
		values = append(values, fragments(m, one(r, 16000, 16000, 200, 31))...)
	}
	var b []byte
	for len(values) > 0 {
		n, size := 0, 0
		for want := 1 + r.IntN(len(values)); n < want; n++ {
			if size += 6 + len(values[n].Data); size > 16384 {
				break
			}
		}
		b = append(b, dataPdu(values[:max(n, 1)]...)...)
		values = values[max(n, 1):]
	}
	switch r.IntN(100) {
	case 0:
		b[r.IntN(len(b))] ^= byte(1 << r.IntN(8))
	case 1:
		b = b[:r.IntN(len(b))]
	}
	return b
}

// randomAccept is an A-ASSOCIATE-AC, its contexts in any order and not all as they were asked for.
func randomAccept(r *rand.Rand, c api.ScuConfig) api.Pdu {
	var contexts []api.PresContext
	for _, i := range r.Perm(len(c.Classes) + 1) {
		x := api.PresContext{Id: uint8(2*i + 1)}
		if x.Result = one[uint8](r, 0, 0, 0, 0, 0, 0, 3, 4); x.Result == 0 {
			x.Syntaxes = []string{one(r, api.UIDImplicit, api.UIDExplicit, uidOf(c.Syntaxes[0]), uidOf(c.Syntaxes[0]), uidOf(c.Syntaxes[0]), "1.2")}
		}
		contexts = append(contexts, x)
	}
	user := api.UserInfo{HasMax: true, MaxLength: one[uint32](r, 0, 1, 64, 65, 500, 16384, 1<<32-1)}
	return acceptingAs(contexts, one(r, user, user, user, api.UserInfo{}))
}

// randomBytes is what comes in a state.
func randomBytes(r *rand.Rand, m *model) []byte {
	odd := one(r, unknownPdu(), invalidPdu(), laid(aborting(0, 0)), laid(aborting(2, 1)), laid(agreeEnd()), laid(askEnd()), laid(randomAccept(r, m.c)), laid(rejecting()), laid(requesting(m.c)), []byte{4, 0, 0, 0, 0x40, 1}, []byte{1, 2, 3})
	switch {
	case r.IntN(40) == 0 || m.sta == 13 && r.IntN(2) == 0:
		return odd
	case m.sta == 5:
		return slices.Concat(laid(one(r, rejecting(), randomAccept(r, m.c), randomAccept(r, m.c), randomAccept(r, m.c))), one(r, nil, nil, nil, odd))
	case (m.sta == 7 || m.sta == 11) && r.IntN(3) == 0:
		return laid(one(r, agreeEnd(), askEnd()))
	}
	var messages []api.Message
	for range 1 + r.IntN(3) {
		messages = append(messages, randomAnswer(r, m))
	}
	return randomPdus(r, messages...)
}

// randomStep is the next call of a walk.
func randomStep(r *rand.Rand, m *model) step {
	if r.IntN(20) == 0 {
		return one(r, calling("opened"), calling("closed"), doing(kind(r.IntN(13)-1)), doing(ticks(one(r, -1, 0, 1, 2, 100000, 100001))), taking([]byte{5}), doing(kind(api.DoAbort)), doing(kind(api.DoRelease)))
	}
	switch m.sta {
	case 1:
		return doing(one(r, kind(api.DoConnect), kind(api.DoConnect), echo(7), ticks(1)))
	case 4:
		return one(r, calling("opened"), calling("opened"), calling("opened"), doing(find(7)), taking(randomBytes(r, m)))
	case 6:
		if r.IntN(30) == 0 {
			return doing(kind(api.DoRelease))
		}
		if len(m.waits) == 0 || r.IntN(2) == 0 {
			return doing(randomRequest(r))
		}
	case 13:
		return one(r, calling("closed"), doing(ticks(1)), taking(randomBytes(r, m)), doing(randomRequest(r)))
	}
	return taking(randomBytes(r, m))
}

// pieces cuts bytes anywhere.
func pieces(r *rand.Rand, b []byte) [][]byte {
	var list [][]byte
	for len(b) > 0 {
		n := min(len(b), one(r, 1, 1+r.IntN(7), 1+r.IntN(300), len(b)))
		list = append(list, b[:n])
		b = b[n:]
	}
	return list
}

// walker holds a scanner, and a twin whose bytes come in other pieces, against the model.
type walker struct {
	t       *testing.T
	r       *rand.Rand
	m       *model
	s, twin *scu.Scanner
	seen    map[string]int
	open    map[uint16]int // requests without a final answer, by their kind of Do
	ended   bool           // something was told or done that ends what waits
}

func (w *walker) step(x step) {
	w.t.Helper()
	want, wrong := w.m.step(x)
	outs, err := x.on(w.s)
	if !same(outs, want) || !same(err, wrong) || err != nil && outs != nil {
		w.t.Fatalf("%s: %s, %v; want %s, %v", shown(x), shown(outs), err, shown(want), wrong)
	}
	isIn(w.t, shown(x), w.s, w.m.state())
	w.inPieces(x, want, wrong)
	w.follow(x, outs, err)
}

// inPieces: how the bytes were cut turns nothing (P17.8).
func (w *walker) inPieces(x step, want []api.ScuOut, wrong error) {
	w.t.Helper()
	if x.call != "take" {
		x.on(w.twin)
	} else {
		var outs []api.ScuOut
		for _, b := range pieces(w.r, x.bytes) {
			outs = append(outs, w.twin.Take(b)...)
		}
		if !same(outs, want) {
			w.t.Fatalf("P17.8: %s: %s, not %s", shown(x), shown(outs), shown(want))
		}
	}
	isIn(w.t, "P17.8", w.twin, w.m.state())
}

// follow keeps account of the requests (P17.7).
func (w *walker) follow(x step, outs []api.ScuOut, err error) {
	w.t.Helper()
	w.seen[fmt.Sprint("sta", w.m.sta)]++
	if err != nil {
		w.seen[faultWords(err)]++
		return
	}
	if x.call == "do" && x.do.Kind >= api.DoEcho && x.do.Kind <= api.DoGet && x.do.Kind != api.DoCancel {
		w.open[x.do.Id] = x.do.Kind
		w.seen["asked"]++
	}
	w.ended = w.ended || x.call == "do" && x.do.Kind == api.DoAbort
	for _, o := range outs {
		switch o.Kind {
		case api.ScuAnswer:
			w.answered(o.Answer)
		case api.ScuSend:
			w.ended = w.ended || o.Data[0] == api.PduAbort
		case api.ScuTell:
			w.seen[fmt.Sprint("tell", o.Word)]++
			w.ended = w.ended || o.Word == api.TellReleased || o.Word == api.TellAbort || o.Word == api.TellBroken || o.Word == api.TellRelease
		}
	}
	if w.s.State().Sta == 1 {
		if len(w.open) > 0 && !w.ended {
			w.t.Fatalf("P17.7: %v have no final answer, and nobody knows why", w.open)
		}
		clear(w.open)
		w.ended = false
	}
}

func (w *walker) answered(a api.ScuReply) {
	w.t.Helper()
	k, isOpen := w.open[a.Id]
	isPending := a.Status == api.StPending || a.Status == api.StWarning
	if !isOpen || isPending && k != api.DoFind {
		w.t.Fatalf("P17.7: %s", shown(a))
	}
	if isPending {
		w.seen["pending"]++
		return
	}
	w.seen["final"]++
	delete(w.open, a.Id)
}

// faultWords tells a chain of faults.
func faultWords(err error) string {
	f, ok := err.(*api.Fault)
	if !ok {
		return fmt.Sprint(err)
	}
	return fmt.Sprint(f.Layer, " ", faultWords(f.Err))
}

// TestRandom: long walks of a scanner, held against the second reading.
func TestRandom(t *testing.T) {
	seen := map[string]int{}
	for seed := range uint64(150) {
		r := rand.New(rand.NewPCG(17, seed))
		c := randomConfig(r)
		w := &walker{t: t, r: r, m: newModel(c), s: fresh(t, c), twin: fresh(t, c), seen: seen, open: map[uint16]int{}}
		for range 300 {
			w.step(randomStep(r, w.m))
		}
	}
	for _, what := range []string{"sta1", "sta4", "sta5", "sta6", "sta7", "sta11", "sta13", "asked", "pending", "final",
		"tell2", "tell3", "tell5", "tell6", "tell7", "tell8",
		"scu modality: errno 1", "scu modality: errno 341", "scu modality: errno 342", "scu modality: errno 343", "scu modality: errno 344",
		"scu charset modality: errno 89", "scu charset modality: errno 80", "scu charset modality: errno 88", "scu dataset dict modality: errno 5",
		"scu dimse modality: errno 205", "scu dimse modality: errno 206", "scu dimse modality: errno 208"} {
		if seen[what] < 20 {
			t.Errorf("the test's walks have %d of %s", seen[what], what)
		}
	}
	if t.Failed() {
		t.Log(seen)
	}
}
