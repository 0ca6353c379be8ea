package engine_test

import (
	"errors"
	"fmt"
	"slices"
	"strings"

	"modality/api"
	"modality/broker"
	"modality/dict"
	"modality/disk"
	"modality/dump"
	"modality/feed"
	"modality/scu"
)

// A second player: P18.3 and P18.4 once more, with the wire as a plain list, and each tick done whether a timer runs or not.

type second struct {
	b        *broker.Broker
	scanners map[int]*scu.Scanner
	order    []int // the scanners' lines, rising
	wire     []func()
	at       int
	out      strings.Builder
}

// serverLine is the number of a text's first line that is not let go.
func serverLine(text string) int {
	for i, line := range strings.Split(text, "\n") {
		if !emptyForm.MatchString(line) {
			return i + 1
		}
	}
	return 0
}

// playAgain is what Play must tell of a text.
func playAgain(text string) (string, error) {
	s, err := readAgain(text)
	if err != nil {
		return "", err
	}
	d, err := disk.New(s.Disk)
	if err != nil {
		return "", fault(serverLine(text), err)
	}
	b, err := broker.Start(s.Config, d.Image())
	if err != nil {
		return "", fault(serverLine(text), err)
	}
	p := &second{b: b, scanners: map[int]*scu.Scanner{}}
	for _, x := range s.Scanners {
		if p.scanners[x.Line], err = scu.New(x.Config); err != nil {
			return "", fault(0, err)
		}
		p.order = append(p.order, x.Line)
	}
	slices.Sort(p.order)
	for _, h := range s.Haps {
		p.happening(h)
	}
	p.closing()
	return p.out.String(), nil
}

// tellAgain is what Tell must tell.
func tellAgain(text string) string {
	report, err := playAgain(text)
	if err != nil {
		return refusedAs(err) + "\n"
	}
	return report
}

func refusedAs(err error) string {
	out := "refused"
	for {
		f, ok := err.(*api.Fault)
		if !ok {
			return fmt.Sprintf("%s errno %d", out, err.(api.Errno))
		}
		out += fmt.Sprintf(" %s %d", f.Layer, f.At)
		err = errors.Unwrap(f)
	}
}

func (p *second) say(format string, args ...any) {
	fmt.Fprintf(&p.out, "%d: "+format+"\n", append([]any{p.at}, args...)...)
}

func (p *second) happening(h api.Hap) {
	p.at = h.Line
	switch {
	case h.Kind == api.HapDo:
		p.refusal(p.scan(h.At, h.Do))
	case h.Kind == api.HapOrder:
		p.refusal(p.server(api.Act{Kind: api.AFeed, Data: feed.Frame(h.Text)}))
	case h.Act.Kind == api.ATick && h.Act.Count <= 100000:
		for range h.Act.Count {
			p.refusal(p.server(api.Act{Kind: api.ATick, Count: 1}))
			p.quiet()
			for _, n := range p.order {
				p.refusal(p.scan(n, api.ScuDo{Kind: api.DoTick, Count: 1}))
				p.quiet()
			}
		}
	default:
		p.refusal(p.server(h.Act))
	}
	p.quiet()
}

func (p *second) refusal(err error) {
	if err != nil {
		p.say("%s", refusedAs(err))
	}
}

// quiet carries until nothing is left.
func (p *second) quiet() {
	for len(p.wire) > 0 {
		first := p.wire[0]
		p.wire = p.wire[1:]
		first()
	}
}

func (p *second) later(f func()) { p.wire = append(p.wire, f) }

func (p *second) server(a api.Act) error {
	outs, err := p.b.Do(a)
	for _, o := range outs {
		s := p.scanners[o.Line]
		switch o.Kind {
		case api.OSend:
			if s != nil {
				p.later(func() { p.did(o.Line, s.Take(o.Data)) })
			} else {
				p.say("line %d sends %x", o.Line, o.Data)
			}
		case api.OShut:
			if s != nil {
				p.later(func() { p.did(o.Line, s.Closed()) })
			} else {
				p.say("line %d shut", o.Line)
			}
		case api.OAck:
			p.say("ack %s", quoted(string(o.Data)))
		case api.OUp:
			p.say("up")
		case api.ODown:
			p.say("down")
			p.later(func() {
				for _, n := range p.order {
					p.did(n, p.scanners[n].Closed())
				}
			})
		}
	}
	return err
}

func (p *second) scan(n int, d api.ScuDo) error {
	outs, err := p.scanners[n].Do(d)
	p.did(n, outs)
	return err
}

func (p *second) did(n int, outs []api.ScuOut) {
	s := p.scanners[n]
	for _, o := range outs {
		switch o.Kind {
		case api.ScuOpen:
			p.later(func() {
				if !p.b.Up() || p.b.Line(n).Sta != 1 {
					p.did(n, s.Closed())
					return
				}
				p.server(api.Act{Kind: api.ALink, Line: n})
				p.did(n, s.Opened())
			})
		case api.ScuSend:
			p.later(func() { p.server(api.Act{Kind: api.AData, Line: n, Data: o.Data}) })
		case api.ScuShut:
			p.later(func() { p.server(api.Act{Kind: api.ADrop, Line: n}) })
		case api.ScuTell:
			p.say("scanner %d is told %s", n, p.news(s, o))
		case api.ScuAnswer:
			p.answer(n, o.Answer)
		}
	}
}

func (p *second) news(s *scu.Scanner, o api.ScuOut) string {
	switch o.Word {
	case api.TellAccepted:
		out := "accepted"
		for _, c := range s.State().Contexts {
			out += fmt.Sprintf(" %d:%s:%s", c.Id, wordsOf(uidOfClass, []string{c.Class}), wordsOf(numOfSyntax, []api.Syntax{c.Syntax}))
		}
		return out
	case api.TellRejected:
		return fmt.Sprintf("rejected %d %d %d", o.Pdu.Result, o.Pdu.Source, o.Pdu.Reason)
	case api.TellReleased:
		return "released"
	case api.TellAbort:
		return fmt.Sprintf("aborted %d %d", o.Pdu.Source, o.Pdu.Reason)
	case api.TellBroken:
		return "broken"
	}
	return "?"
}

func (p *second) answer(n int, a api.ScuReply) {
	out := fmt.Sprintf("scanner %d answer %d %04X", n, a.Id, a.Status)
	if a.ErrorId != 0 {
		out += fmt.Sprintf(" error %04X", a.ErrorId)
	}
	for _, t := range a.Offending {
		out += " " + dict.PrintTag(t)
	}
	if a.HasData {
		text, err := dump.Print(a.Nodes)
		if err != nil {
			text = "?\n"
		}
		out += " {\n" + setIn(text) + "}"
	}
	p.say("%s", out)
}

func (p *second) closing() {
	if !p.b.Up() {
		fmt.Fprintf(&p.out, "down\n")
		return
	}
	fmt.Fprintf(&p.out, "up\n")
	for n := range 16 {
		if l := p.b.Line(n); l.Sta != 1 {
			fmt.Fprintf(&p.out, "line %d sta %d queue %d owed %d\n", n, l.Sta, l.Queue, l.Owed)
		}
	}
	st := p.b.State()
	fmt.Fprintf(&p.out, "control %s\n", quoted(st.Control))
	for _, s := range st.Steps {
		fmt.Fprintf(&p.out, "step %s status %d date %s time %s modality %s station %s patient %s\n", quoted(s.ID), s.Status, s.Date, s.Time, quoted(s.Modality), quoted(s.Station), quoted(s.PatientName))
	}
	for _, x := range st.Perfs {
		fmt.Fprintf(&p.out, "performed %s state %d nodes %d\n", x.UID, x.State, len(x.Data))
	}
}
