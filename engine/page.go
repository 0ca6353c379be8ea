package engine

import (
	"strings"

	"modality/api"
	"modality/dump"
)

// indent stands ahead of each line of a data set.
const indent = "  "

// page is a script's text in the making. One that is too long is not gone on with.
type page struct {
	text []byte
	long bool
}

// put writes pieces one behind the other.
func (p *page) put(pieces ...string) {
	for _, s := range pieces {
		p.long = p.long || len(p.text)+len(s) > api.MaxDump
		if !p.long {
			p.text = append(p.text, s...)
		}
	}
}

// putLine writes the line that says an entry.
func (p *page) putLine(r row, e entry) {
	p.put(r.word)
	for _, c := range r.words {
		c.write(p, &e)
	}
	p.put("\n")
}

// putDataSet writes the lines of a well-formed data set, and the one that closes it. Layer 7 refuses such a one for its length alone.
func (p *page) putDataSet(nodes []api.Node) {
	dumped, err := dump.Print(nodes)
	p.long = p.long || err != nil
	p.put(indented(dumped), closeWord, "\n")
}

// indented is a dump with its lines set in.
func indented(dumped string) string {
	var b []byte
	for _, line := range strings.SplitAfter(dumped, "\n") {
		if line != "" {
			b = append(b, indent+line...)
		}
	}
	return string(b)
}

// laidOut writes a script that lines say.
func (t table) laidOut(s api.Script) page {
	var p page
	p.putLine(serverRow(), entry{config: s.Config, disk: s.Disk})
	for _, title := range s.Config.Callers {
		p.putLine(callerRow(), entry{caller: title})
	}
	for _, x := range s.Scanners {
		p.putLine(scannerRow(), entry{scanner: x})
	}
	for _, h := range s.Haps {
		if p.long {
			break
		}
		r, _ := t.byKind(h)
		p.putLine(r, entry{hap: h})
		if hasDataSet(h) {
			p.putDataSet(h.Do.Nodes)
		}
	}
	return p
}

// unsaid tells the place for which no text says a script, if there is one: 0, or 1 and the place of a happening.
func (t table) unsaid(s api.Script) (at int, found bool) {
	var taken seats
	if !saysHead(s, &taken) {
		return 0, true
	}
	for i, h := range s.Haps {
		if i == api.MaxActs || !t.saysHap(h, &taken) {
			return 1 + i, true
		}
	}
	return 0, false
}

// saysHead tells whether lines say a script's server and scanners, and notes which lines these take. Every caller is a word.
func saysHead(s api.Script, taken *seats) bool {
	if !serverRow().says(entry{config: s.Config, disk: s.Disk}) {
		return false
	}
	for _, x := range s.Scanners {
		if !taken.isFree(x.Line) || !scannerRow().says(entry{scanner: x}) {
			return false
		}
		taken[x.Line] = true
	}
	return true
}

// saysHap tells whether a line says a happening, where these lines are taken by scanners.
func (t table) saysHap(h api.Hap, taken *seats) bool {
	r, ok := t.byKind(h)
	return ok && taken.fit(h) && r.says(entry{hap: h})
}
