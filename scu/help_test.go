package scu_test

import (
	"fmt"
	"reflect"
	"slices"
	"testing"

	"modality/api"
	"modality/dataset"
	"modality/dict"
	"modality/dimse"
	"modality/pdu"
	"modality/scu"
)

func same(a, b any) bool { return reflect.DeepEqual(a, b) }

// shown tells the beginning of anything.
func shown(x any) string { return fmt.Sprintf("%.1500s", fmt.Sprintf("%+v", x)) }

// isFault tells whether an error is this layer's fault at this place with this reason.
func isFault(err error, at int, reason error) bool {
	f, ok := err.(*api.Fault)
	return ok && f != nil && f.Layer == "scu" && f.At == at && same(f.Err, reason)
}

// exampleConfig is the scanner of the document's examples.
func exampleConfig() api.ScuConfig {
	return api.ScuConfig{Title: "CT1", Called: "RIS", Classes: []string{api.UIDVerify, api.UIDWorklist}, Syntaxes: []api.Syntax{api.Explicit, api.Implicit}, Artim: 5}
}

// wideConfig is a scanner that asks for every class, for most of them twice.
func wideConfig() api.ScuConfig {
	c := exampleConfig()
	c.Classes = []string{api.UIDVerify, api.UIDWorklist, api.UIDPerform, api.UIDRetrieve, api.UIDWorklist, api.UIDPerform, api.UIDRetrieve, "1.2.3"}
	c.Most = 128
	return c
}

// agreed are the contexts that accepting brings to the scanner of wideConfig: two of most classes, the lower number behind the higher one.
func agreed() []api.Context {
	return []api.Context{
		{Id: 9, Class: api.UIDWorklist, Syntax: api.Explicit},
		{Id: 1, Class: api.UIDVerify, Syntax: api.Implicit},
		{Id: 3, Class: api.UIDWorklist, Syntax: api.Implicit},
		{Id: 11, Class: api.UIDPerform, Syntax: api.Implicit},
		{Id: 5, Class: api.UIDPerform, Syntax: api.Explicit},
		{Id: 7, Class: api.UIDRetrieve, Syntax: api.Implicit},
		{Id: 13, Class: api.UIDRetrieve, Syntax: api.Explicit},
	}
}

func contextOf(id uint8) api.Context {
	for _, c := range agreed() {
		if c.Id == id {
			return c
		}
	}
	return api.Context{}
}

func uidOf(s api.Syntax) string {
	return map[api.Syntax]string{api.Implicit: "1.2.840.10008.1.2", api.Explicit: "1.2.840.10008.1.2.1"}[s]
}

// accepting is an A-ASSOCIATE-AC with these contexts, that tells such a length.
func accepting(contexts []api.Context, most uint32) api.Pdu {
	var list []api.PresContext
	for _, c := range contexts {
		list = append(list, api.PresContext{Id: c.Id, Syntaxes: []string{uidOf(c.Syntax)}})
	}
	return acceptingAs(list, api.UserInfo{HasMax: true, MaxLength: most})
}

func acceptingAs(list []api.PresContext, user api.UserInfo) api.Pdu {
	return api.Pdu{Kind: api.PduAC, Assoc: api.Associate{Version: 1, Called: "RIS", Calling: "CT1", App: api.UIDContext, Contexts: list, User: user}}
}

func rejecting() api.Pdu { return api.Pdu{Kind: api.PduRJ, Result: 1, Source: 2, Reason: 3} }
func askEnd() api.Pdu    { return api.Pdu{Kind: api.PduReleaseRQ} }
func agreeEnd() api.Pdu  { return api.Pdu{Kind: api.PduReleaseRP} }

func aborting(source, reason uint8) api.Pdu {
	return api.Pdu{Kind: api.PduAbort, Source: source, Reason: reason}
}

// requesting is an A-ASSOCIATE-RQ as a scanner asks.
func requesting(c api.ScuConfig) api.Pdu {
	var list []api.PresContext
	for i, class := range c.Classes {
		p := api.PresContext{Id: uint8(1 + 2*i), Class: class}
		for _, s := range c.Syntaxes {
			p.Syntaxes = append(p.Syntaxes, uidOf(s))
		}
		list = append(list, p)
	}
	user := api.UserInfo{HasMax: true, MaxLength: c.Most, Class: "1.2.826.0.1.3680043.10.1414", Name: "MODALITY_1"}
	return api.Pdu{Kind: api.PduRQ, Assoc: api.Associate{Version: 1, Called: c.Called, Calling: c.Title, App: "1.2.840.10008.3.1.1.1", Contexts: list, User: user}}
}

func laid(pdus ...api.Pdu) []byte {
	var all []byte
	for _, p := range pdus {
		b, err := pdu.Encode(p)
		if err != nil {
			panic(err)
		}
		all = append(all, b...)
	}
	return all
}

func unknownPdu() []byte { return []byte{9, 0, 0, 0, 0, 0} }
func invalidPdu() []byte { return []byte{4, 0, 0, 0, 0, 0} }

// The outs.
func opens() api.ScuOut         { return api.ScuOut{Kind: api.ScuOpen} }
func shuts() api.ScuOut         { return api.ScuOut{Kind: api.ScuShut} }
func says(word int) api.ScuOut  { return api.ScuOut{Kind: api.ScuTell, Word: word} }
func sends(b []byte) api.ScuOut { return api.ScuOut{Kind: api.ScuSend, Data: b} }

func saysPdu(word int, p api.Pdu) api.ScuOut {
	return api.ScuOut{Kind: api.ScuTell, Word: word, Pdu: p}
}

func sendsPdu(p api.Pdu) api.ScuOut { return sends(laid(p)) }

func answers(r api.ScuReply) api.ScuOut {
	return api.ScuOut{Kind: api.ScuAnswer, Answer: r}
}

// fresh is a scanner that is idle.
func fresh(t *testing.T, c api.ScuConfig) *scu.Scanner {
	t.Helper()
	s, err := scu.New(c)
	if err != nil || s == nil {
		t.Fatalf("P17.1: %v", err)
	}
	return s
}

func do(t *testing.T, s *scu.Scanner, d api.ScuDo) []api.ScuOut {
	t.Helper()
	outs, err := s.Do(d)
	if err != nil {
		t.Fatalf("P17.2: %s: %v", shown(d), err)
	}
	return outs
}

func kind(k int) api.ScuDo     { return api.ScuDo{Kind: k} }
func ticks(n int) api.ScuDo    { return api.ScuDo{Kind: api.DoTick, Count: n} }
func echo(id uint16) api.ScuDo { return api.ScuDo{Kind: api.DoEcho, Id: id} }

func find(id uint16, nodes ...api.Node) api.ScuDo {
	return api.ScuDo{Kind: api.DoFind, Id: id, Nodes: nodes}
}

func cancel(id uint16) api.ScuDo { return api.ScuDo{Kind: api.DoCancel, Id: id} }

func create(id uint16, uid string, nodes ...api.Node) api.ScuDo {
	return api.ScuDo{Kind: api.DoCreate, Id: id, UID: uid, Nodes: nodes}
}

func set(id uint16, uid string, nodes ...api.Node) api.ScuDo {
	return api.ScuDo{Kind: api.DoSet, Id: id, UID: uid, Nodes: nodes}
}

func get(id uint16, uid string, attrs ...api.Tag) api.ScuDo {
	return api.ScuDo{Kind: api.DoGet, Id: id, UID: uid, Attrs: attrs}
}

// requests are one of each kind of request, each with an Id of its own, as a scanner may do them in this order.
func requests() []api.ScuDo {
	return []api.ScuDo{echo(1), find(2, name("X")), cancel(2), create(3, "1.2", name("X")), set(4, "1.2", name("X")), get(5, "1.2", api.TagModality)}
}

// gives: a call has just these outs.
func gives(t *testing.T, what string, got []api.ScuOut, want ...api.ScuOut) {
	t.Helper()
	if !same(got, want) {
		t.Fatalf("%s: %s, not %s", what, shown(got), shown(want))
	}
}

func isIn(t *testing.T, what string, s *scu.Scanner, want api.ScuState) {
	t.Helper()
	if got := s.State(); !same(got, want) {
		t.Fatalf("%s: %s, not %s", what, shown(got), shown(want))
	}
}

// associated is a scanner of wideConfig in Sta6 with the contexts agreed, to whom the server tells such a length.
func associated(t *testing.T, most uint32) *scu.Scanner {
	t.Helper()
	s := fresh(t, wideConfig())
	do(t, s, kind(api.DoConnect))
	s.Opened()
	s.Take(laid(accepting(agreed(), most)))
	isIn(t, "P17.4", s, api.ScuState{Sta: 6, Contexts: agreed(), Most: int(most)})
	return s
}

// places are the states in which a scanner can rest.
func places() []int { return []int{1, 4, 5, 6, 7, 11, 13} }

// reach is a scanner of wideConfig in a state; where there is an association, a C-ECHO 90 and a C-FIND 91 wait.
func reach(t *testing.T, sta int) *scu.Scanner {
	t.Helper()
	s := fresh(t, wideConfig())
	if sta >= 4 {
		do(t, s, kind(api.DoConnect))
	}
	if sta >= 5 {
		s.Opened()
	}
	if sta >= 6 {
		s = associated(t, 64)
		do(t, s, echo(90))
		do(t, s, find(91))
	}
	if sta == 7 || sta == 11 {
		do(t, s, kind(api.DoRelease))
	}
	if sta == 11 {
		s.Take(laid(askEnd()))
	}
	if sta == 13 {
		do(t, s, kind(api.DoAbort))
	}
	isIn(t, "the test's way", s, resting(sta))
	return s
}

// resting is the state of a scanner that reach gives.
func resting(sta int) api.ScuState {
	st := api.ScuState{Sta: sta}
	if sta >= 6 {
		st.Contexts, st.Most, st.Waiting = agreed(), 64, []uint16{90, 91}
	}
	return st
}

// fragments are a message's, each of at most so many bytes.
func fragments(m api.Message, size int) []api.Pdv {
	command, err := dimse.EncodeCmd(m.Cmd)
	if err != nil {
		panic(err)
	}
	var list []api.Pdv
	part := func(isCommand bool, b []byte) {
		for {
			n := min(size, len(b))
			list = append(list, api.Pdv{Context: m.Context, Command: isCommand, Last: n == len(b), Data: b[:n:n]})
			if b = b[n:]; len(b) == 0 {
				return
			}
		}
	}
	part(true, command)
	if m.Cmd.HasData {
		part(false, m.Data)
	}
	return list
}

// dataPdu is a P-DATA-TF with these fragments.
func dataPdu(values ...api.Pdv) []byte {
	return laid(api.Pdu{Kind: api.PduData, Values: values})
}

// sentAs is how a message goes out with such a length: a P-DATA-TF a fragment of an even number of bytes.
func sentAs(m api.Message, most int) []api.ScuOut {
	var outs []api.ScuOut
	for _, v := range fragments(m, (most-6)/2*2) {
		outs = append(outs, sends(dataPdu(v)))
	}
	return outs
}

// said is messages as they come: a P-DATA-TF a fragment.
func said(messages ...api.Message) []byte {
	var b []byte
	for _, m := range messages {
		for _, v := range fragments(m, 16000) {
			b = append(b, dataPdu(v)...)
		}
	}
	return b
}

// answer is a message that answers a request of a context.
func answer(context uint8, field, to, status uint16) api.Message {
	return api.Message{Context: context, Cmd: api.Cmd{Field: field + 0x8000, To: to, Status: status}}
}

// withData is a message with a data set in the context's syntax.
func withData(m api.Message, nodes ...api.Node) api.Message {
	b, err := dataset.Encode(nodes, contextOf(m.Context).Syntax)
	if err != nil {
		panic(err)
	}
	m.Cmd.HasData, m.Data = true, b
	return m
}

// el is an element of a tag that the dictionary knows; a sequence has no items.
func el(tag api.Tag, value string) api.Node {
	return api.Node{Tag: tag, VR: dict.Default(tag), Value: value}
}

func name(value string) api.Node { return el(api.TagPatientName, value) }

// list puts nodes and lists of them one behind the other.
func list(parts ...any) []api.Node {
	var all []api.Node
	for _, p := range parts {
		switch x := p.(type) {
		case api.Node:
			all = append(all, x)
		case []api.Node:
			all = append(all, x...)
		}
	}
	return all
}

// holding is an item with these elements and what is in them.
func holding(parts ...any) []api.Node {
	inside := list(parts...)
	count := 0
	for i := 0; i < len(inside); i = dict.Next(inside, i) {
		count++
	}
	return list(api.Node{Tag: api.TagItem, VR: api.VRItem, N: count}, inside)
}

// seq is a sequence with these items.
func seq(tag api.Tag, items ...[]api.Node) []api.Node {
	return list(api.Node{Tag: tag, VR: api.VRSQ, N: len(items)}, slices.Concat(items...))
}
