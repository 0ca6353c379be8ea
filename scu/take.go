package scu

import (
	"slices"

	"modality/api"
	"modality/charset"
	"modality/dataset"
	"modality/dimse"
	"modality/upper"
)

// Why bytes are no PDU, as an A-ABORT tells it.
const (
	reasonUnknown = 1 // no PDU of that kind
	reasonInvalid = 6 // a PDU that may not be
)

// read works on each PDU that is whole, as long as there is a connection.
func (s *Scanner) read(b []byte, tell telling) {
	s.stream.Take(b)
	for s.isOpen() {
		p, verdict, _ := s.stream.Next()
		switch verdict {
		case api.PduWhole:
			s.meet(p, tell)
		case api.PduUnknown:
			s.event(api.UpperEvent{Kind: api.EvInvalid, Reason: reasonUnknown}, tell)
		case api.PduInvalid:
			s.event(api.UpperEvent{Kind: api.EvInvalid, Reason: reasonInvalid}, tell)
		default:
			return
		}
	}
}

// meet works on a PDU.
func (s *Scanner) meet(p api.Pdu, tell telling) {
	e := api.UpperEvent{Kind: upper.EventOf(p), Pdu: p}
	if e.Kind == api.EvAcPdu && s.sta() == staAsking {
		s.agree(p.Assoc)
	}
	s.event(e, tell)
}

// agree takes over what the server has accepted.
func (s *Scanner) agree(ac api.Associate) {
	for _, c := range ac.Contexts {
		if x, ok := s.agreed(c); ok {
			s.contexts = append(s.contexts, x)
		}
	}
	s.most = lengthFor(ac.User.MaxLength)
	s.joiner = dimse.NewJoiner(s.contexts, false)
}

// agreed is the context that an accepted one is, if the scanner has asked for it so.
func (s *Scanner) agreed(c api.PresContext) (api.Context, bool) {
	if c.Result != 0 {
		return api.Context{}, false
	}
	for i, class := range s.config.Classes {
		for _, x := range s.config.Syntaxes {
			if c.Id == contextId(i) && slices.Contains(c.Syntaxes, uidOf(x)) {
				return api.Context{Id: c.Id, Class: class, Syntax: x}, true
			}
		}
	}
	return api.Context{}, false
}

// lengthFor is the length that the scanner keeps to, by what the server tells; 0: it tells none.
func lengthFor(told uint32) int {
	if told == 0 {
		return api.MaxPdu
	}
	return int(min(max(told, api.MinPdu), api.MaxPdu))
}

// join joins fragments to messages, which must be answers.
func (s *Scanner) join(fragments []api.Pdv, tell telling) {
	for _, v := range fragments {
		m, whole, err := s.joiner.Take(v)
		if err != nil || whole && !s.answered(m, tell) {
			s.event(api.UpperEvent{Kind: api.EvAbort}, tell)
			return
		}
	}
}

// answered tells an answer; false: the message is none that the scanner awaits.
func (s *Scanner) answered(m api.Message, tell telling) bool {
	reply, ok := s.reply(m)
	if !ok {
		return false
	}
	tell(api.ScuOut{Kind: api.ScuAnswer, Answer: reply})
	if !isPending(reply.Status) {
		delete(s.waiting, reply.Id)
	}
	return true
}

// reply reads a message as an answer to a request that waits, if it is one.
func (s *Scanner) reply(m api.Message) (api.ScuReply, bool) {
	c := m.Cmd
	r := s.waiting[c.To]
	if r == nil || c.Field != r.command()|api.IsAnswer || m.Context != r.on().Id {
		return api.ScuReply{}, false
	}
	if _, ok := r.(query); !ok && isPending(c.Status) {
		return api.ScuReply{}, false
	}
	nodes, err := dataset.Decode(m.Data, r.on().Syntax)
	if err != nil {
		return api.ScuReply{}, false
	}
	if nodes, err = charset.Unify(nodes); err != nil {
		return api.ScuReply{}, false
	}
	return api.ScuReply{
		Id:        c.To,
		Field:     r.command(),
		Instance:  c.Instance,
		Status:    c.Status,
		ErrorId:   c.ErrorId,
		Offending: c.Offending,
		HasData:   c.HasData,
		Nodes:     nodes,
	}, true
}

func isPending(status uint16) bool {
	return status == api.StPending || status == api.StWarning
}
