package broker

import (
	"modality/api"
	"modality/dimse"
	"modality/service"
	"modality/upper"
)

// Why bytes are no PDU, as an A-ABORT tells it.
const (
	reasonUnknown = 1 // no PDU of that kind
	reasonInvalid = 6 // a PDU that may not be
)

// data: bytes come on a connection (P16.4).
func (b *Broker) data(a api.Act) {
	l := &b.lines[a.Line]
	if l.isIdle() {
		return
	}
	l.stream.Take(a.Data)
	for !l.isIdle() {
		p, verdict, _ := l.stream.Next()
		switch verdict {
		case api.PduWhole:
			b.event(a.Line, b.coming(a.Line, p))
		case api.PduUnknown:
			b.event(a.Line, api.UpperEvent{Kind: api.EvInvalid, Reason: reasonUnknown})
		case api.PduInvalid:
			b.event(a.Line, api.UpperEvent{Kind: api.EvInvalid, Reason: reasonInvalid})
		default:
			return
		}
	}
}

// coming is the event that a PDU is when it comes.
func (b *Broker) coming(n int, p api.Pdu) api.UpperEvent {
	e := api.UpperEvent{Kind: upper.EventOf(p), Pdu: p}
	if e.Kind == api.EvRqPdu {
		_, _, _, reject, ok := upper.Negotiate(p, b.config, b.busyBeside(n))
		e.Bad, e.Answer = !ok, reject
	}
	return e
}

// tell tells the service user what its provider has to tell.
func (b *Broker) tell(n int, a api.UpperAct) {
	switch a.Word {
	case api.TellAssociate:
		b.accept(n, a.Pdu)
	case api.TellData:
		b.take(n, a.Pdu.Values)
	case api.TellRelease:
		b.lines[n].leaving = true
		b.leave(n)
	}
}

// accept agrees to an association. Only a request that Negotiate takes comes here: it is asked again for its answer, which nothing has changed since.
func (b *Broker) accept(n int, rq api.Pdu) {
	ac, contexts, most, _, _ := upper.Negotiate(rq, b.config, b.busyBeside(n))
	b.lines[n].association = association{
		contexts: contexts,
		most:     most,
		joiner:   dimse.NewJoiner(contexts, true),
		service:  service.New(b.store, contexts),
	}
	b.event(n, api.UpperEvent{Kind: api.EvAccept, Pdu: ac})
}

// take joins fragments to messages, as long as there is an association.
func (b *Broker) take(n int, fragments []api.Pdv) {
	l := &b.lines[n]
	for _, v := range fragments {
		if !l.isAssociated() {
			return
		}
		m, whole, err := l.joiner.Take(v)
		switch {
		case err != nil:
			b.abort(n)
		case whole:
			b.carryOut(n, l.service.Take(m))
		}
	}
}

func (b *Broker) abort(n int) { b.event(n, api.UpperEvent{Kind: api.EvAbort}) }

// leave answers a release as soon as nothing is owed.
func (b *Broker) leave(n int) {
	if l := &b.lines[n]; l.leaving && l.service.Owed() == 0 {
		b.event(n, api.UpperEvent{Kind: api.EvReleased})
	}
}

// carryOut does what a line's service wants done (P16.5).
func (b *Broker) carryOut(n int, d api.Doing) {
	b.noteQuery(n)
	for _, m := range d.Send {
		b.sendMessage(n, m)
	}
	if d.Abort {
		b.abort(n)
	}
	if d.Off {
		b.losePower(b.fuse)
	}
	b.compact()
}

// noteQuery keeps in mind whether a query runs on a line.
func (b *Broker) noteQuery(n int) {
	if v := b.lines[n].service; v.Running() {
		b.running[n] = v
	} else {
		delete(b.running, n)
	}
}

// sendMessage sends an answer. A service makes none that can't be cut.
func (b *Broker) sendMessage(n int, m api.Message) {
	pdus, _ := dimse.Cut(m, b.lines[n].most)
	for _, p := range pdus {
		b.event(n, api.UpperEvent{Kind: api.EvData, Pdu: p})
	}
}

// turns lets the running queries put out their answers (P16.6). Where no query runs a turn does no more than the turn ahead of it has done: a compaction that was put off there has no room here either.
func (b *Broker) turns(a api.Act) {
	for i := range a.Count {
		if i > 0 && len(b.running) == 0 {
			return
		}
		for n := range b.lines {
			b.turn(n)
		}
	}
}

// turn is a line's part of a turn. A service in which no query runs has nothing to put out, but a compaction may be due behind it.
func (b *Broker) turn(n int) {
	if !b.lines[n].isAssociated() {
		return
	}
	var d api.Doing
	if v, runs := b.running[n]; runs {
		d = v.Turn()
	}
	b.carryOut(n, d)
	b.leave(n)
}
