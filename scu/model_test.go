package scu_test

import (
	"fmt"
	"slices"
	"testing"

	"modality/api"
	"modality/charset"
	"modality/dataset"
	"modality/dimse"
	"modality/pdu"
	"modality/scu"
)

// The model is a second reading of the document: it knows no provider, no stream and no joiner, but the states in which a scanner can rest.

// step is a call of a scanner.
type step struct {
	call  string // do, opened, take, closed
	do    api.ScuDo
	bytes []byte
}

func doing(d api.ScuDo) step   { return step{call: "do", do: d} }
func taking(b ...[]byte) step  { return step{call: "take", bytes: slices.Concat(b...)} }
func calling(call string) step { return step{call: call} }
func (x step) String() string  { return fmt.Sprintf("%s %+v %x", x.call, x.do, x.bytes) }

func (x step) on(s *scu.Scanner) ([]api.ScuOut, error) {
	switch x.call {
	case "do":
		return s.Do(x.do)
	case "opened":
		return s.Opened(), nil
	case "take":
		return s.Take(x.bytes), nil
	}
	return s.Closed(), nil
}

// pending is a request that waits.
type pending struct {
	id, field uint16
	context   api.Context
}

type model struct {
	c        api.ScuConfig
	sta      int
	left     int // ticks of the timer
	dead     bool
	held     []byte
	contexts []api.Context
	most     int
	waits    []pending
	message  []api.Pdv // the fragments of a message that is not whole
	outs     []api.ScuOut
}

func newModel(c api.ScuConfig) *model { return &model{c: c, sta: 1} }

func (m *model) step(x step) ([]api.ScuOut, error) {
	m.outs = nil
	var err error
	switch x.call {
	case "do":
		err = m.do(x.do)
	case "opened":
		if m.sta == 4 {
			m.send(requesting(m.c))
			m.sta = 5
		}
	case "take":
		if m.sta != 1 && m.sta != 4 {
			m.take(x.bytes)
		}
	case "closed":
		if m.sta != 1 && m.sta != 13 {
			m.tell(api.TellBroken, api.Pdu{})
		}
		m.end()
	}
	return m.outs, err
}

func (m *model) put(o api.ScuOut)         { m.outs = append(m.outs, o) }
func (m *model) send(p api.Pdu)           { m.put(sendsPdu(p)) }
func (m *model) tell(word int, p api.Pdu) { m.put(saysPdu(word, p)) }
func (m *model) end()                     { *m = model{c: m.c, sta: 1, outs: m.outs} }
func (m *model) over()                    { m.sta, m.left = 13, m.c.Artim }
func refused(at int, reason error) error  { return &api.Fault{Layer: "scu", At: at, Err: reason} }
func (m *model) state() api.ScuState {
	var ids []uint16
	for _, w := range m.waits {
		ids = append(ids, w.id)
	}
	slices.Sort(ids)
	return api.ScuState{Sta: m.sta, Contexts: m.contexts, Most: m.most, Waiting: ids}
}

func (m *model) do(d api.ScuDo) error {
	switch d.Kind {
	case api.DoConnect:
		if m.sta != 1 {
			return refused(0, api.ErrScuState)
		}
		m.sta = 4
		m.put(opens())
	case api.DoRelease:
		if m.sta != 6 {
			return refused(0, api.ErrScuState)
		}
		m.sta = 7
		m.send(askEnd())
	case api.DoAbort:
		switch m.sta {
		case 1, 13:
			return refused(0, api.ErrScuState)
		case 4:
			m.put(shuts())
			m.end()
		default:
			m.send(aborting(0, 0))
			m.over()
		}
	case api.DoTick:
		if d.Count < 0 || d.Count > 100000 {
			return refused(1, api.ErrArg)
		}
		if m.sta == 13 {
			if m.left -= d.Count; m.left <= 0 {
				m.put(shuts())
				m.end()
			}
		}
	case api.DoEcho, api.DoFind, api.DoCancel, api.DoCreate, api.DoSet, api.DoGet:
		return m.ask(d)
	default:
		return refused(0, api.ErrArg)
	}
	return nil
}

func (m *model) waiting(id uint16) int {
	return slices.IndexFunc(m.waits, func(w pending) bool { return w.id == id })
}

func (m *model) ask(d api.ScuDo) error {
	if m.sta != 6 {
		return refused(0, api.ErrScuState)
	}
	at := m.waiting(d.Id)
	if isCancel := d.Kind == api.DoCancel; isCancel && (at < 0 || m.waits[at].field != api.CFind) || !isCancel && at >= 0 {
		return refused(0, api.ErrScuId)
	}
	c := map[int]api.Cmd{
		api.DoEcho:   {Field: api.CEcho, Class: api.UIDVerify, Id: d.Id},
		api.DoFind:   {Field: api.CFind, Class: api.UIDWorklist, Id: d.Id, HasData: true},
		api.DoCancel: {Field: api.CCancel, Class: api.UIDWorklist, To: d.Id},
		api.DoCreate: {Field: api.NCreate, Class: api.UIDPerform, Id: d.Id, Instance: d.UID, HasData: true},
		api.DoSet:    {Field: api.NSet, Class: api.UIDPerform, Id: d.Id, Instance: d.UID, HasData: true},
		api.DoGet:    {Field: api.NGet, Class: api.UIDRetrieve, Id: d.Id, Instance: d.UID, Attrs: d.Attrs},
	}[d.Kind]
	var own []api.Context
	for _, x := range m.contexts {
		if x.Class == c.Class {
			own = append(own, x)
		}
	}
	if len(own) == 0 {
		return refused(0, api.ErrScuContext)
	}
	x := slices.MinFunc(own, func(a, b api.Context) int { return int(a.Id) - int(b.Id) })
	if c.Field == api.CCancel {
		c.Class = ""
	}
	message := api.Message{Context: x.Id, Cmd: c}
	if c.HasData {
		nodes, err := charset.Express(d.Nodes, d.Charset)
		if err != nil {
			return refused(1, err)
		}
		if message.Data, err = dataset.Encode(nodes, x.Syntax); err != nil {
			return refused(2, err)
		}
		if len(message.Data) > 65536 {
			return refused(3, api.ErrScuData)
		}
	}
	if _, err := dimse.EncodeCmd(c); err != nil {
		return refused(0, err)
	}
	m.outs = append(m.outs, sentAs(message, m.most)...)
	if c.Field != api.CCancel {
		m.waits = append(m.waits, pending{d.Id, c.Field, x})
	}
	return nil
}

// take reads the bytes that are held PDU by PDU.
func (m *model) take(b []byte) {
	if m.dead {
		return
	}
	m.held = append(m.held, b...)
	for m.sta != 1 && len(m.held) >= 6 {
		kind, size := int(m.held[0]), 6+(int(m.held[2])<<24|int(m.held[3])<<16|int(m.held[4])<<8|int(m.held[5]))
		limit := map[int]int{1: 32768, 2: 32768, 3: 4, 4: 16384, 5: 4, 6: 4, 7: 4}[kind] + 6
		switch {
		case kind < 1 || kind > 7:
			m.invalid(1)
			return
		case size > limit || kind != 1 && kind != 2 && kind != 4 && size != limit:
			m.invalid(6)
			return
		case len(m.held) < size:
			return
		}
		p, err := pdu.Decode(m.held[:size])
		if err != nil {
			m.invalid(6)
			return
		}
		m.held = m.held[size:]
		m.come(p)
	}
}

// invalid: bytes that are no PDU.
func (m *model) invalid(reason uint8) {
	m.dead, m.held = true, nil
	m.send(aborting(2, reason))
	if m.sta != 13 {
		m.tell(api.TellBroken, api.Pdu{})
		m.over()
	}
}

// come: a PDU comes in one of Sta5, 6, 7, 11, 13.
func (m *model) come(p api.Pdu) {
	k, sta := p.Kind, m.sta
	switch {
	case k == api.PduAbort && sta == 13:
		m.put(shuts())
		m.end()
	case k == api.PduAbort && p.Source == 0:
		m.tell(api.TellAbort, p)
		m.put(shuts())
		m.end()
	case k == api.PduAbort:
		m.tell(api.TellBroken, p)
		m.put(shuts())
		m.end()
	case sta == 13 && k == api.PduRQ:
		m.send(aborting(2, 2))
	case sta == 13:
	case sta == 5 && k == api.PduAC:
		m.accept(p)
	case sta == 5 && k == api.PduRJ:
		m.tell(api.TellRejected, p)
		m.put(shuts())
		m.end()
	case (sta == 6 || sta == 7) && k == api.PduData:
		m.data(p.Values)
	case sta == 6 && k == api.PduReleaseRQ:
		m.tell(api.TellRelease, api.Pdu{})
		m.send(agreeEnd())
		m.over()
	case sta == 7 && k == api.PduReleaseRQ:
		m.tell(api.TellRelease, api.Pdu{})
		m.send(agreeEnd())
		m.sta = 11
	case (sta == 7 || sta == 11) && k == api.PduReleaseRP:
		m.tell(api.TellReleased, api.Pdu{})
		m.put(shuts())
		m.end()
	default:
		m.send(aborting(2, 2))
		m.tell(api.TellBroken, api.Pdu{})
		m.over()
	}
}

func (m *model) accept(p api.Pdu) {
	m.sta = 6
	m.tell(api.TellAccepted, p)
	for _, a := range p.Assoc.Contexts {
		place := int(a.Id-1) / 2
		if a.Result != 0 || place >= len(m.c.Classes) {
			continue
		}
		for _, x := range m.c.Syntaxes {
			if uidOf(x) == a.Syntaxes[0] {
				m.contexts = append(m.contexts, api.Context{Id: a.Id, Class: m.c.Classes[place], Syntax: x})
			}
		}
	}
	switch n := p.Assoc.User.MaxLength; {
	case n == 0 || n > 16384:
		m.most = 16384
	case n < 64:
		m.most = 64
	default:
		m.most = int(n)
	}
}

func (m *model) data(values []api.Pdv) {
	for _, v := range values {
		if !m.fragment(v) {
			m.send(aborting(0, 0))
			m.over()
			m.message = nil
			return
		}
	}
}

// fragment tells whether a fragment may come; the message that it completes is looked at.
func (m *model) fragment(v api.Pdv) bool {
	if !slices.ContainsFunc(m.contexts, func(c api.Context) bool { return c.Id == v.Context }) {
		return false
	}
	m.message = append(m.message, v)
	var command, data []byte
	isWhole := false
	for _, f := range m.message {
		if f.Context != m.message[0].Context || f.Command == isWhole {
			return false
		}
		if f.Command {
			command, isWhole = append(command, f.Data...), f.Last
		} else {
			data = append(data, f.Data...)
		}
	}
	if len(command) > 4096 || len(data) > 65536 {
		return false
	}
	if !isWhole {
		return true
	}
	c, err := dimse.DecodeCmd(command)
	if err != nil {
		return false
	}
	if c.HasData && (v.Command || !v.Last) {
		return true
	}
	m.message = nil
	return m.answer(api.Message{Context: v.Context, Cmd: c, Data: data})
}

func (m *model) answer(a api.Message) bool {
	at := m.waiting(a.Cmd.To)
	if at < 0 {
		return false
	}
	w := m.waits[at]
	isPending := a.Cmd.Status == 0xFF00 || a.Cmd.Status == 0xFF01
	if a.Cmd.Field != w.field+0x8000 || a.Context != w.context.Id || isPending && w.field != 0x20 {
		return false
	}
	r := api.ScuReply{Id: w.id, Field: w.field, Instance: a.Cmd.Instance, Status: a.Cmd.Status, ErrorId: a.Cmd.ErrorId, Offending: a.Cmd.Offending, HasData: a.Cmd.HasData}
	if a.Cmd.HasData {
		nodes, err := dataset.Decode(a.Data, w.context.Syntax)
		if err != nil {
			return false
		}
		if r.Nodes, err = charset.Unify(nodes); err != nil {
			return false
		}
	}
	m.put(answers(r))
	if !isPending {
		m.waits = slices.Delete(m.waits, at, at+1)
	}
	return true
}

// TestModelItself: the model knows the document's examples.
func TestModelItself(t *testing.T) {
	m := newModel(exampleConfig())
	for _, x := range []step{doing(kind(api.DoConnect)), calling("opened"), taking(laid(accepting([]api.Context{{Id: 1, Syntax: api.Explicit}}, 0))), doing(echo(7)), taking(said(answer(1, 0x30, 7, 0)))} {
		if _, err := m.step(x); err != nil {
			t.Fatal(err)
		}
	}
	if !same(m.outs, []api.ScuOut{answers(api.ScuReply{Id: 7, Field: 0x30})}) || !same(m.state(), api.ScuState{Sta: 6, Contexts: []api.Context{{Id: 1, Class: api.UIDVerify, Syntax: api.Explicit}}, Most: 16384}) {
		t.Fatalf("the model: %s, %s", shown(m.outs), shown(m.state()))
	}
}
