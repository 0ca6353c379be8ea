package engine

import (
	"modality/api"
	"modality/broker"
	"modality/disk"
	"modality/feed"
	"modality/scu"
)

// The state of a line that has no connection, and those in which a timer runs.
const (
	staIdle  = 1
	staBegun = 2
	staOver  = 13
)

// player plays a script: a server, the scanners on its lines, and the wire between them.
type player struct {
	server   *broker.Broker
	scanners [api.MaxLines]*scu.Scanner // nil: none stands on that line
	coming   []parcel                   // what has come out and is still to be carried
	at       int                        // the number of the line that is played
	report   []byte
}

// begin makes a server and its scanners, of which none has done anything.
func begin(s api.Script, serverLine int) (*player, error) {
	d, err := disk.New(s.Disk)
	if err != nil {
		return nil, refusal(serverLine, err)
	}
	b, err := broker.Start(s.Config, d.Image())
	if err != nil {
		return nil, refusal(serverLine, err)
	}
	p := &player{server: b}
	for _, x := range s.Scanners {
		scanner, err := scu.New(x.Config)
		if err != nil {
			return nil, refusal(0, err)
		}
		p.scanners[x.Line] = scanner
	}
	return p, nil
}

// happen lets a happening happen, and carries what comes of it until all is quiet.
func (p *player) happen(h api.Hap) {
	p.at = h.Line
	if err := p.do(h); err != nil {
		p.tell(refused(err))
	}
	p.carry()
}

func (p *player) do(h api.Hap) error {
	switch {
	case h.Kind == api.HapDo:
		return p.ask(h.At, h.Do)
	case h.Kind == api.HapOrder:
		return p.act(api.Act{Kind: api.AFeed, Data: feed.Frame(h.Text)})
	case h.Act.Kind == api.ATick && h.Act.Count <= api.MaxCount:
		p.ticks(h.Act.Count)
		return nil
	}
	return p.act(h.Act)
}

// ticks lets all timers go on side by side. No tick begins a timer: where none runs, the others are nothing.
func (p *player) ticks(count int) {
	for range count {
		if !p.isTimed() {
			return
		}
		p.act(api.Act{Kind: api.ATick, Count: 1})
		p.carry()
		p.eachScanner(func(n int) {
			p.ask(n, api.ScuDo{Kind: api.DoTick, Count: 1})
			p.carry()
		})
	}
}

// isTimed tells whether some timer runs.
func (p *player) isTimed() bool {
	for n, s := range p.scanners {
		for _, sta := range [...]int{p.server.Line(n).Sta, s.State().Sta} {
			if sta == staBegun || sta == staOver {
				return true
			}
		}
	}
	return false
}

// eachScanner goes through the scanners in the order of their lines' numbers.
func (p *player) eachScanner(visit func(line int)) {
	for n, s := range p.scanners {
		if s != nil {
			visit(n)
		}
	}
}

// act lets something happen to the server.
func (p *player) act(a api.Act) error {
	outs, err := p.server.Do(a)
	for _, o := range outs {
		p.comeOut(o)
	}
	return err
}

// ask tells a scanner to do something.
func (p *player) ask(line int, d api.ScuDo) error {
	outs, err := p.scanners[line].Do(d)
	p.goOut(line, outs)
	return err
}
