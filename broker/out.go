package broker

import (
	"modality/api"
	"modality/pdu"
)

// outcome is something that comes out of an Act.
type outcome interface{ isOutcome() }

// The kinds of what comes out.
type (
	sent struct {
		line int
		pdu  []byte
	}
	shut         struct{ line int }
	acknowledged struct{ frame []byte }
	wentDown     struct{}
	cameUp       struct{}
)

func (sent) isOutcome()         {}
func (shut) isOutcome()         {}
func (acknowledged) isOutcome() {}
func (wentDown) isOutcome()     {}
func (cameUp) isOutcome()       {}

// plain tells an outcome as plain data.
func plain(o outcome) api.Out {
	switch x := o.(type) {
	case sent:
		return api.Out{Kind: api.OSend, Line: x.line, Data: x.pdu}
	case shut:
		return api.Out{Kind: api.OShut, Line: x.line}
	case acknowledged:
		return api.Out{Kind: api.OAck, Data: x.frame}
	case wentDown:
		return api.Out{Kind: api.ODown}
	case cameUp:
		return api.Out{Kind: api.OUp}
	}
	return api.Out{}
}

// put lets something come out.
func (b *Broker) put(o outcome) { b.outs = append(b.outs, o) }

// send lets a PDU come out. Layer 8 writes each that comes here: the layers that made it keep to its limits.
func (b *Broker) send(n int, p api.Pdu) {
	bytes, _ := pdu.Encode(p)
	b.put(sent{n, bytes})
}

// told gives what has come out of an Act. Nothing of it is kept.
func (b *Broker) told() []api.Out {
	var outs []api.Out
	for _, o := range b.outs {
		outs = append(outs, plain(o))
	}
	b.outs = nil
	return outs
}
