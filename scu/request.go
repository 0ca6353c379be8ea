package scu

import (
	"modality/api"
	"modality/charset"
	"modality/dataset"
	"modality/dimse"
)

// request is what waits for its final answer.
type request interface {
	command() uint16
	on() api.Context
}

// query is a C-FIND: pending answers may come ahead of its final one.
type query struct{ context api.Context }

// single is a request that has no other answer than its final one.
type single struct {
	field   uint16
	context api.Context
}

func (query) command() uint16    { return api.CFind }
func (q query) on() api.Context  { return q.context }
func (r single) command() uint16 { return r.field }
func (r single) on() api.Context { return r.context }

func (s *Scanner) echo(d api.ScuDo, tell telling) error {
	return s.ask(api.Cmd{Field: api.CEcho, Class: api.UIDVerify, Id: d.Id}, d, tell)
}

func (s *Scanner) find(d api.ScuDo, tell telling) error {
	return s.ask(api.Cmd{Field: api.CFind, Class: api.UIDWorklist, Id: d.Id, HasData: true}, d, tell)
}

func (s *Scanner) create(d api.ScuDo, tell telling) error {
	return s.ask(api.Cmd{Field: api.NCreate, Class: api.UIDPerform, Instance: d.UID, Id: d.Id, HasData: true}, d, tell)
}

func (s *Scanner) set(d api.ScuDo, tell telling) error {
	return s.ask(api.Cmd{Field: api.NSet, Class: api.UIDPerform, Instance: d.UID, Id: d.Id, HasData: true}, d, tell)
}

func (s *Scanner) get(d api.ScuDo, tell telling) error {
	return s.ask(api.Cmd{Field: api.NGet, Class: api.UIDRetrieve, Instance: d.UID, Id: d.Id, Attrs: d.Attrs}, d, tell)
}

// ask sends a request, which waits from then on.
func (s *Scanner) ask(c api.Cmd, d api.ScuDo, tell telling) error {
	if s.sta() != staAssociated {
		return refusal(0, api.ErrScuState)
	}
	if s.waiting[c.Id] != nil {
		return refusal(0, api.ErrScuId)
	}
	x, ok := s.contextFor(c.Class)
	if !ok {
		return refusal(0, api.ErrScuContext)
	}
	m := api.Message{Context: x.Id, Cmd: c}
	if c.HasData {
		b, err := laidDown(d, x.Syntax)
		if err != nil {
			return err
		}
		m.Data = b
	}
	if err := s.send(m, tell); err != nil {
		return err
	}
	s.waiting[c.Id] = waitingFor(c.Field, x)
	return nil
}

// cancel sends a C-CANCEL on its query's context, which is still that with the lowest number.
func (s *Scanner) cancel(d api.ScuDo, tell telling) error {
	if s.sta() != staAssociated {
		return refusal(0, api.ErrScuState)
	}
	q, ok := s.waiting[d.Id].(query)
	if !ok {
		return refusal(0, api.ErrScuId)
	}
	return s.send(api.Message{Context: q.on().Id, Cmd: api.Cmd{Field: api.CCancel, To: d.Id}}, tell)
}

// contextFor is the agreed context of a class, of several that with the lowest number.
func (s *Scanner) contextFor(class string) (lowest api.Context, found bool) {
	for _, c := range s.contexts {
		if c.Class == class && (!found || c.Id < lowest.Id) {
			lowest, found = c, true
		}
	}
	return lowest, found
}

// laidDown is the bytes of a request's data set.
func laidDown(d api.ScuDo, x api.Syntax) ([]byte, error) {
	nodes, err := charset.Express(d.Nodes, d.Charset)
	if err != nil {
		return nil, refusal(1, err)
	}
	b, err := dataset.Encode(nodes, x)
	if err != nil {
		return nil, refusal(2, err)
	}
	if len(b) > api.MaxData {
		return nil, refusal(3, api.ErrScuData)
	}
	return b, nil
}

func (s *Scanner) send(m api.Message, tell telling) error {
	pdus, err := dimse.Cut(m, s.most)
	if err != nil {
		return refusal(0, err)
	}
	for _, p := range pdus {
		s.event(api.UpperEvent{Kind: api.EvData, Pdu: p}, tell)
	}
	return nil
}

func waitingFor(field uint16, x api.Context) request {
	if field == api.CFind {
		return query{x}
	}
	return single{field, x}
}
