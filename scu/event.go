package scu

import (
	"modality/api"
	"modality/pdu"
)

// The states of the provider that tell what a scanner has.
const (
	staIdle       = 1
	staConnecting = 4
	staAsking     = 5
	staAssociated = 6
	staOver       = 13
)

func (s *Scanner) sta() int { return s.provider.State().Sta }

// isOpen tells whether there is a connection.
func (s *Scanner) isOpen() bool {
	sta := s.sta()
	return sta != staIdle && sta != staConnecting
}

// telling is told what a scanner does, in order.
type telling func(outs ...api.ScuOut)

// gathered is what a piece of work tells.
func gathered(work func(tell telling)) []api.ScuOut {
	var all []api.ScuOut
	work(func(outs ...api.ScuOut) { all = append(all, outs...) })
	return all
}

// open: the connection that was asked for is there.
func (s *Scanner) open(tell telling) {
	s.event(api.UpperEvent{Kind: api.EvConnected}, tell)
}

// lose: the connection is gone.
func (s *Scanner) lose(tell telling) {
	s.event(api.UpperEvent{Kind: api.EvClosed}, tell)
}

// event lets something happen to the provider, and tells what that does.
func (s *Scanner) event(e api.UpperEvent, tell telling) {
	acts := s.provider.Do(e)
	s.settle()
	for _, a := range acts {
		switch a.Kind {
		case api.UpConnect:
			tell(api.ScuOut{Kind: api.ScuOpen})
		case api.UpSend:
			tell(sent(a.Pdu))
		case api.UpShut:
			tell(api.ScuOut{Kind: api.ScuShut})
		case api.UpTell:
			s.hear(a, tell)
		}
	}
}

// settle leaves the scanner with what it has in its provider's state.
func (s *Scanner) settle() {
	switch s.sta() {
	case staIdle:
		s.connection = connection{}
		clear(s.waiting)
	case staConnecting:
		s.stream = pdu.NewStream()
	case staOver:
		s.joiner = nil // nothing will make a half-read message whole
	}
}

// sent is a PDU that goes out. Layer 8 writes each that comes here: the layers that made it keep to its limits.
func sent(p api.Pdu) api.ScuOut {
	b, _ := pdu.Encode(p)
	return api.ScuOut{Kind: api.ScuSend, Data: b}
}

// hear does with what the provider tells its user what the user does.
func (s *Scanner) hear(a api.UpperAct, tell telling) {
	if a.Word == api.TellData {
		s.join(a.Pdu.Values, tell)
		return
	}
	tell(api.ScuOut{Kind: api.ScuTell, Word: a.Word, Pdu: a.Pdu})
	if a.Word == api.TellRelease {
		s.event(api.UpperEvent{Kind: api.EvReleased}, tell)
	}
}
