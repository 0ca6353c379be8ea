package broker

import (
	"modality/api"
	"modality/dimse"
	"modality/pdu"
	"modality/service"
	"modality/upper"
)

// The states of the upper layer that tell what a line has.
const (
	staIdle       = 1
	staAssociated = 6 // the first with an association
	staParting    = 12
)

// line is a transport connection, if there is one, and the association on it.
type line struct {
	provider *upper.Provider
	stream   *pdu.Stream // nil: the line is idle
	association
}

// association is what was agreed on a line; the zero one is none.
type association struct {
	contexts []api.Context
	most     int // the greatest length of a P-DATA-TF that the other side takes
	joiner   *dimse.Joiner
	service  *service.Service
	leaving  bool // the other side's release is to be answered as soon as nothing is owed
}

func (l *line) isIdle() bool { return l.stream == nil }

func (l *line) isAssociated() bool { return l.service != nil }

// beginLines makes all lines idle.
func (b *Broker) beginLines() {
	for n := range b.lines {
		b.endAssociation(n)
		p, _ := upper.New(b.config.Artim) // Start takes no other
		b.lines[n] = line{provider: p}
	}
}

// link: a transport connection opens (P16.3).
func (b *Broker) link(a api.Act) {
	if b.lines[a.Line].isIdle() {
		b.event(a.Line, api.UpperEvent{Kind: api.EvOpened})
	}
}

// drop: the other side has closed the connection (P16.3).
func (b *Broker) drop(a api.Act) {
	if !b.lines[a.Line].isIdle() {
		b.event(a.Line, api.UpperEvent{Kind: api.EvClosed})
	}
}

// ticks lets the lines' timers go on (P16.6). No tick begins a timer: where none runs, the others are nothing.
func (b *Broker) ticks(a api.Act) {
	for range a.Count {
		if !b.isTimed() {
			return
		}
		for n := range b.lines {
			b.event(n, api.UpperEvent{Kind: api.EvTick})
		}
	}
}

// isTimed tells whether some line's timer runs.
func (b *Broker) isTimed() bool {
	for n := range b.lines {
		if b.lines[n].provider.State().Timed {
			return true
		}
	}
	return false
}

// event lets something happen to a line's provider, and does what that wants done.
func (b *Broker) event(n int, e api.UpperEvent) {
	acts := b.lines[n].provider.Do(e)
	b.settle(n)
	for _, a := range acts {
		switch a.Kind {
		case api.UpSend:
			b.send(n, a.Pdu)
		case api.UpShut:
			b.put(shut{n})
		case api.UpTell:
			b.tell(n, a)
		}
	}
}

// settle leaves a line with what it has in its provider's state.
func (b *Broker) settle(n int) {
	l := &b.lines[n]
	sta := l.provider.State().Sta
	if !within(sta, staAssociated, staParting) {
		b.endAssociation(n)
	}
	switch {
	case sta == staIdle:
		l.stream = nil
	case l.isIdle():
		l.stream = pdu.NewStream()
	}
}

// endAssociation lets go what an association held.
func (b *Broker) endAssociation(n int) {
	l := &b.lines[n]
	clear(l.contexts)
	l.association = association{}
	delete(b.running, n)
}

// busyBeside tells how many other lines have an association.
func (b *Broker) busyBeside(n int) int {
	busy := 0
	for i := range b.lines {
		if i != n && b.lines[i].isAssociated() {
			busy++
		}
	}
	return busy
}
