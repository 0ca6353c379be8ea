package engine

import "modality/api"

// parcel is something on the wire: what is done when it is carried, on which line, with which bytes.
type parcel struct {
	arrive func(*player, parcel)
	line   int
	data   []byte
}

// carry carries all that is on the wire, and what comes of that, until nothing is left. What comes out while the wire is drained waits for the next one: so the first in is the first out.
func (p *player) carry() {
	for len(p.coming) > 0 {
		wire := make(chan parcel, len(p.coming))
		for _, x := range p.coming {
			wire <- x
		}
		close(wire)
		p.coming = nil
		for x := range wire {
			x.arrive(p, x)
		}
	}
}

func (p *player) put(x parcel) { p.coming = append(p.coming, x) }

// comeOut takes what comes out of the server: a scanner's part goes on the wire, the rest is told.
func (p *player) comeOut(o api.Out) {
	manned := p.scanners[o.Line] != nil
	switch {
	case o.Kind == api.OSend && manned:
		p.put(parcel{arrive: (*player).bring, line: o.Line, data: o.Data})
	case o.Kind == api.OShut && manned:
		p.put(parcel{arrive: (*player).shut, line: o.Line})
	case o.Kind == api.OSend:
		p.tell("line ", decimal(o.Line), " sends ", writePairs(o.Data))
	case o.Kind == api.OShut:
		p.tell("line ", decimal(o.Line), " shut")
	case o.Kind == api.OAck:
		p.tell("ack ", quote(string(o.Data)))
	case o.Kind == api.OUp:
		p.tell("up")
	case o.Kind == api.ODown:
		p.tell("down")
		p.put(parcel{arrive: (*player).shutAll})
	}
}

// goOut takes what a scanner does: what the server must know goes on the wire, the rest is told.
func (p *player) goOut(line int, outs []api.ScuOut) {
	for _, o := range outs {
		switch o.Kind {
		case api.ScuOpen:
			p.put(parcel{arrive: (*player).open, line: line})
		case api.ScuSend:
			p.put(parcel{arrive: (*player).send, line: line, data: o.Data})
		case api.ScuShut:
			p.put(parcel{arrive: (*player).drop, line: line})
		case api.ScuTell:
			p.tellNews(line, o)
		case api.ScuAnswer:
			p.tellAnswer(line, o.Answer)
		}
	}
}

// open opens a connection for a scanner, if the server takes one.
func (p *player) open(x parcel) {
	if !p.server.Up() || p.server.Line(x.line).Sta != staIdle {
		p.shut(x)
		return
	}
	p.act(api.Act{Kind: api.ALink, Line: x.line})
	p.goOut(x.line, p.scanners[x.line].Opened())
}

func (p *player) send(x parcel) {
	p.act(api.Act{Kind: api.AData, Line: x.line, Data: x.data})
}

func (p *player) drop(x parcel) { p.act(api.Act{Kind: api.ADrop, Line: x.line}) }

func (p *player) bring(x parcel) { p.goOut(x.line, p.scanners[x.line].Take(x.data)) }

func (p *player) shut(x parcel) { p.goOut(x.line, p.scanners[x.line].Closed()) }

// shutAll: the power is gone, and with it every connection.
func (p *player) shutAll(parcel) {
	p.eachScanner(func(n int) { p.shut(parcel{line: n}) })
}
