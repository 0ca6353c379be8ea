package engine

import (
	"errors"
	"strconv"
	"strings"

	"modality/api"
	"modality/dict"
	"modality/dump"
)

func decimal(n int) string { return strconv.Itoa(n) }

// fourDigits writes a number with four hexadecimal digits.
func fourDigits(n uint16) string {
	const fifth = 1 << 16 // so that zeros ahead are written too
	return strings.ToUpper(strconv.FormatUint(fifth+uint64(n), 16)[1:])
}

// line writes a line of the report.
func (p *player) line(pieces ...string) {
	for _, s := range pieces {
		p.report = append(p.report, s...)
	}
	p.report = append(p.report, '\n')
}

// tell writes a line of the happening that is played.
func (p *player) tell(pieces ...string) {
	p.line(append([]string{decimal(p.at), ": "}, pieces...)...)
}

// refused tells of a refusal: each fault from the outermost on, and the number behind them.
func refused(err error) string {
	told := "refused"
	var f *api.Fault
	for errors.As(err, &f) {
		told += " " + f.Layer + " " + decimal(f.At)
		err = f.Err
	}
	var reason api.Errno
	errors.As(err, &reason)
	return told + " errno " + decimal(int(reason))
}

// tellNews writes what a scanner's user is told of its association.
func (p *player) tellNews(line int, o api.ScuOut) {
	p.tell("scanner ", decimal(line), " is told ", p.news(line, o))
}

func (p *player) news(line int, o api.ScuOut) string {
	switch o.Word {
	case api.TellAccepted:
		return "accepted" + agreed(p.scanners[line].State().Contexts)
	case api.TellRejected:
		return "rejected" + numbered(o.Pdu.Result, o.Pdu.Source, o.Pdu.Reason)
	case api.TellReleased:
		return "released"
	case api.TellAbort:
		return "aborted" + numbered(o.Pdu.Source, o.Pdu.Reason)
	}
	return "broken"
}

// agreed writes contexts, a space ahead of each.
func agreed(contexts []api.Context) string {
	told := ""
	for _, c := range contexts {
		told += " " + decimal(int(c.Id)) + ":" + nameOf(classNames(), c.Class) + ":" + nameOf(syntaxNames(), c.Syntax)
	}
	return told
}

// numbered writes numbers, a space ahead of each.
func numbered(list ...uint8) string {
	told := ""
	for _, n := range list {
		told += " " + decimal(int(n))
	}
	return told
}

// tellAnswer writes an answer, with its data set if it has one.
func (p *player) tellAnswer(line int, a api.ScuReply) {
	told := "scanner " + decimal(line) + " answer " + decimal(int(a.Id)) + " " + fourDigits(a.Status)
	if a.ErrorId != 0 {
		told += " error " + fourDigits(a.ErrorId)
	}
	for _, t := range a.Offending {
		told += " " + dict.PrintTag(t)
	}
	if a.HasData {
		dumped, _ := dump.Print(a.Nodes) // of a message: no such set is too long for a dump
		told += " " + openWord + "\n" + indented(dumped) + closeWord
	}
	p.tell(told)
}

// close writes how all stands in the end.
func (p *player) close() {
	if !p.server.Up() {
		p.line("down")
		return
	}
	p.line("up")
	for n := range p.scanners {
		if l := p.server.Line(n); l.Sta != staIdle {
			p.line("line ", decimal(n), " sta ", decimal(l.Sta), " queue ", decimal(l.Queue), " owed ", decimal(l.Owed))
		}
	}
	p.closeState(p.server.State())
}

// closeState writes what the server keeps.
func (p *player) closeState(st api.State) {
	p.line("control ", quote(st.Control))
	for _, s := range st.Steps {
		p.line("step ", quote(s.ID), " status ", decimal(s.Status), " date ", s.Date, " time ", s.Time,
			" modality ", quote(s.Modality), " station ", quote(s.Station), " patient ", quote(s.PatientName))
	}
	for _, x := range st.Perfs {
		p.line("performed ", x.UID, " state ", decimal(x.State), " nodes ", decimal(len(x.Data)))
	}
}
