package broker_test

import (
	"bytes"
	"encoding/binary"
	"slices"
	"testing"

	"modality/api"
	"modality/charset"
	"modality/dataset"
	"modality/dict"
	"modality/dimse"
	"modality/feed"
	"modality/mpps"
	"modality/pdu"
	"modality/store"
	"modality/upper"
	"modality/worklist"
)

// model is a second reading of the document, over plain values and without a disk. Of the layers below it asks what a PDU, a request for an association, a command, an order, keys or a change mean; streams, states, timers, joining, waiting, and what is written when are its own.
type model struct {
	t       *testing.T
	c       api.Config
	st      api.State
	may     []api.State // while it is down: what a start may find
	up      bool
	lines   [16]modelLine
	feed    []byte
	records int // behind the journal's base
	left    int // writes that the power lasts for; -1: any number
	outs    []api.Out
}

type modelLine struct {
	sta, timer int
	dead       bool // what came was no PDU
	bytes      []byte
	contexts   []api.Context
	most       int
	leaving    bool
	part       modelPart
	entries    []*entry // the first may run; the others wait
}

// modelPart is a message that is not whole.
type modelPart struct {
	begun         bool
	context       uint8
	command, data []byte
	cmd           *api.Cmd
}

// entry is a request that has no final answer yet.
type entry struct {
	m      api.Message
	runs   bool
	marked bool
	says   []api.Message // of one that runs
	sizes  []int
}

// gone is what the model gives up with when the power goes.
type gone struct{}

func newModel(t *testing.T, c api.Config, st api.State) *model {
	x := &model{t: t, c: c, st: st, up: true, left: -1}
	for n := range x.lines {
		x.lines[n].sta = 1
	}
	return x
}

// do tells what comes out of an Act that may be. (A start is settled by what the server has told: settle.)
func (x *model) do(a api.Act) (outs []api.Out) {
	x.outs = nil
	defer func() {
		if r := recover(); r != nil {
			if _, ok := r.(gone); !ok {
				panic(r)
			}
			outs = x.outs
		}
	}()
	switch a.Kind {
	case api.AFuse:
		if x.left != 0 {
			x.left = a.Count
		}
	case api.ARoom:
	default:
		if x.up {
			x.act(a)
		}
	}
	return x.outs
}

func (x *model) act(a api.Act) {
	l := &x.lines[a.Line]
	switch a.Kind {
	case api.ALink:
		if l.sta == 1 {
			l.sta, l.timer = 2, x.c.Artim
		}
	case api.ADrop:
		*l = modelLine{sta: 1}
	case api.AData:
		x.data(a.Line, a.Data)
	case api.AFeedLink:
		x.feed = nil
	case api.AFeed:
		x.orders(a.Data)
	case api.ATurn:
		for range a.Count {
			for n := range x.lines {
				x.turn(n)
			}
		}
	case api.ATick:
		for range a.Count {
			for n := range x.lines {
				x.tick(n)
			}
		}
	case api.APower:
		x.goDown(x.st)
	}
}

// goDown: the power is gone; a start may find one of these states.
func (x *model) goDown(may ...api.State) {
	x.up, x.feed, x.left, x.may = false, nil, -1, may
	for n := range x.lines {
		x.lines[n] = modelLine{sta: 1}
	}
	x.outs = append(x.outs, api.Out{Kind: api.ODown})
	panic(gone{})
}

// change makes the state another: an append and a sync.
func (x *model) change(next api.State) {
	switch x.left {
	case 0:
		x.goDown(x.st)
	case 1:
		x.goDown(x.st, next)
	}
	if x.left > 0 {
		x.left -= 2
	}
	x.st = next
	x.records++
}

// compact takes a new base, if it is time: five writes, since both slots are there.
func (x *model) compact() {
	if x.records < x.c.Compact {
		return
	}
	if x.left >= 0 && x.left < 5 {
		x.goDown(x.st)
	}
	if x.left >= 0 {
		x.left -= 5
	}
	x.records = 0
}

func (x *model) send(n int, b []byte) {
	x.outs = append(x.outs, api.Out{Kind: api.OSend, Line: n, Data: b})
}

// say sends a message.
func (x *model) say(n int, m api.Message) {
	x.outs = append(x.outs, answers(n, x.lines[n].most, m)...)
}

// part lets the association go; the connection's end is awaited.
func (x *model) part(n int) {
	l := &x.lines[n]
	*l = modelLine{sta: 13, timer: x.c.Artim, dead: l.dead, bytes: l.bytes}
}

func (x *model) abort(n int, source, reason byte) {
	x.send(n, aborting(source, reason))
	x.part(n)
}

func (x *model) shut(n int) {
	x.outs = append(x.outs, api.Out{Kind: api.OShut, Line: n})
	x.lines[n] = modelLine{sta: 1}
}

func (x *model) tick(n int) {
	l := &x.lines[n]
	if l.timer == 0 {
		return
	}
	if l.timer--; l.timer == 0 {
		x.shut(n)
	}
}

// data cuts a stream into PDUs.
func (x *model) data(n int, b []byte) {
	l := &x.lines[n]
	if l.sta == 1 || l.dead {
		return
	}
	l.bytes = append(slices.Clone(l.bytes), b...)
	for l.sta != 1 && !l.dead && len(l.bytes) >= 6 {
		kind, length := l.bytes[0], int64(binary.BigEndian.Uint32(l.bytes[2:]))
		least, most := int64(4), int64(4)
		switch kind {
		case 1, 2:
			least, most = 0, 32768
		case 4:
			least, most = 0, 16384
		}
		reason := byte(0)
		var p api.Pdu
		switch {
		case kind < 1 || kind > 7:
			reason = 1
		case length < least || length > most:
			reason = 6
		case int64(len(l.bytes)) < 6+length:
			return
		default:
			var err error
			if p, err = pdu.Decode(l.bytes[:6+length]); err != nil {
				reason = 6
			}
		}
		if reason != 0 {
			l.dead, l.bytes = true, nil
			x.invalid(n, reason)
			return
		}
		l.bytes = l.bytes[6+length:]
		x.pdu(n, p)
	}
}

func (x *model) invalid(n int, reason byte) {
	switch x.lines[n].sta {
	case 2:
		x.abort(n, 0, 0)
	case 6, 8:
		x.abort(n, 2, reason)
	case 13:
		x.send(n, aborting(2, reason))
	}
}

func (x *model) busy() int {
	n := 0
	for _, l := range x.lines {
		if l.sta == 6 || l.sta == 8 {
			n++
		}
	}
	return n
}

func (x *model) pdu(n int, p api.Pdu) {
	l := &x.lines[n]
	switch {
	case p.Kind == api.PduAbort:
		x.shut(n)
	case l.sta == 2 && p.Kind == api.PduRQ:
		ac, contexts, most, reject, ok := upper.Negotiate(p, x.c, x.busy())
		if !ok {
			x.send(n, laid(reject))
			x.part(n)
			return
		}
		l.sta, l.timer, l.contexts, l.most = 6, 0, contexts, most
		x.send(n, laid(ac))
	case l.sta == 2:
		x.abort(n, 0, 0)
	case l.sta == 6 && p.Kind == api.PduData:
		for _, v := range p.Values {
			if l.sta == 6 {
				x.fragment(n, v)
			}
		}
	case l.sta == 6 && p.Kind == api.PduReleaseRQ:
		l.sta, l.leaving = 8, true
		x.leave(n)
	case l.sta == 6, l.sta == 8:
		x.abort(n, 2, 2)
	case l.sta == 13 && p.Kind == api.PduRQ:
		x.send(n, aborting(2, 2))
	}
}

func (x *model) leave(n int) {
	if l := &x.lines[n]; l.leaving && len(l.entries) == 0 {
		x.send(n, releaseRP())
		x.part(n)
	}
}

func (l *modelLine) context(id uint8) (api.Context, bool) {
	i := slices.IndexFunc(l.contexts, func(c api.Context) bool { return c.Id == id })
	if i < 0 {
		return api.Context{}, false
	}
	return l.contexts[i], true
}

// fragment joins; the first check that applies aborts.
func (x *model) fragment(n int, v api.Pdv) {
	l := &x.lines[n]
	p := &l.part
	_, agreed := l.context(v.Context)
	if !agreed || p.begun && p.context != v.Context || v.Command != (p.cmd == nil) ||
		v.Command && len(p.command)+len(v.Data) > 4096 || !v.Command && len(p.data)+len(v.Data) > 65536 {
		x.abort(n, 0, 0)
		return
	}
	p.begun, p.context = true, v.Context
	if !v.Command {
		p.data = append(p.data, v.Data...)
		if v.Last {
			x.message(n, api.Message{Context: p.context, Cmd: *p.cmd, Data: p.data})
		}
		return
	}
	p.command = append(p.command, v.Data...)
	if !v.Last {
		return
	}
	c, err := dimse.DecodeCmd(p.command)
	if err != nil || c.Field >= 0x8000 || c.Field == 0x0FFF && c.HasData {
		x.abort(n, 0, 0)
		return
	}
	p.cmd = &c
	if !c.HasData {
		x.message(n, api.Message{Context: p.context, Cmd: c})
	}
}

// message looks at a whole message, and lets a compaction follow.
func (x *model) message(n int, m api.Message) {
	l := &x.lines[n]
	l.part = modelPart{}
	waiting := len(l.entries)
	if waiting > 0 && l.entries[0].runs {
		waiting--
	}
	switch {
	case m.Cmd.Field == 0x0FFF:
		x.cancel(n, m.Cmd.To)
	case waiting == 8:
		x.abort(n, 0, 0)
	case slices.ContainsFunc(l.entries, func(e *entry) bool { return e.m.Cmd.Id == m.Cmd.Id }):
		x.say(n, answer(m, 0x0210))
	default:
		l.entries = append(l.entries, &entry{m: m})
		x.goOn(n)
	}
	x.compact()
}

func (x *model) cancel(n int, id uint16) {
	l := &x.lines[n]
	for i, e := range l.entries {
		switch {
		case e.m.Cmd.Id != id, e.m.Cmd.Field != 0x0020:
		case e.runs:
			l.entries = slices.Delete(slices.Clone(l.entries), i, i+1)
			x.say(n, answer(e.m, 0xFE00))
			x.goOn(n)
			return
		default:
			e.marked = true
		}
	}
}

// goOn begins entries, as long as the first does not run.
func (x *model) goOn(n int) {
	l := &x.lines[n]
	for len(l.entries) > 0 && !l.entries[0].runs {
		if x.begin(n, l.entries[0]); !l.entries[0].runs {
			l.entries = l.entries[1:]
		}
	}
}

func (x *model) turn(n int) {
	l := &x.lines[n]
	if l.sta != 6 && l.sta != 8 {
		return
	}
	if len(l.entries) > 0 {
		e := l.entries[0]
		x.say(n, e.says[0])
		e.says, e.sizes = e.says[1:], e.sizes[1:]
		if len(e.says) == 0 {
			l.entries = l.entries[1:]
			x.goOn(n)
		}
	}
	x.compact()
	x.leave(n)
}

// begin answers a request, or lets it run.
func (x *model) begin(n int, e *entry) {
	m := e.m
	c, _ := x.lines[n].context(m.Context)
	isN := m.Cmd.Field >= 0x100
	unread, notClass := uint16(0xA900), uint16(0x0122)
	if isN {
		unread, notClass = 0x0110, 0x0118
	}
	serves := map[string][]uint16{api.UIDVerify: {0x30}, api.UIDWorklist: {0x20}, api.UIDPerform: {0x120, 0x140}, api.UIDRetrieve: {0x110}}[c.Class]
	wantsData := m.Cmd.Field != 0x30 && m.Cmd.Field != 0x110
	switch {
	case e.marked:
		x.say(n, answer(m, 0xFE00))
	case c.Class != m.Cmd.Class:
		x.say(n, answer(m, notClass))
	case !slices.Contains(serves, m.Cmd.Field):
		x.say(n, answer(m, 0x0211))
	case wantsData != m.Cmd.HasData:
		x.say(n, answer(m, 0x0212))
	case m.Cmd.Field == 0x30:
		x.say(n, answer(m, 0))
	case m.Cmd.Field == 0x110:
		v := mpps.Get(x.st, m.Cmd.Instance, m.Cmd.Attrs)
		a := byVerdict(m, v)
		if v.Status == 0 {
			a = expressed(a, v.Data, "", c.Syntax)
		}
		x.say(n, a)
	default:
		raw, err := dataset.Decode(m.Data, c.Syntax)
		if err != nil {
			x.say(n, answer(m, unread))
			return
		}
		keys, err := charset.Unify(raw)
		if err != nil {
			x.say(n, answer(m, unread, api.TagCharset))
			return
		}
		if m.Cmd.Field == 0x20 {
			x.find(n, e, c, raw, keys)
			return
		}
		x.perform(n, m, keys)
	}
}

func byVerdict(m api.Message, v api.Verdict) api.Message {
	a := answer(m, v.Status, v.Offending...)
	a.Cmd.ErrorId = v.ErrorId
	return a
}

func expressed(a api.Message, nodes []api.Node, set string, s api.Syntax) api.Message {
	a.Cmd.HasData = true
	if nodes, err := charset.Express(nodes, set); err == nil {
		if b, err := dataset.Encode(nodes, s); err == nil {
			a.Data = b
		}
	}
	return a
}

func (x *model) perform(n int, m api.Message, nodes []api.Node) {
	judge := mpps.Create
	if m.Cmd.Field == 0x0120 {
		judge = mpps.Set
	}
	v := judge(x.st, m.Cmd.Instance, nodes)
	if v.Change.Kind != 0 {
		next, err := store.Apply(x.st, v.Change)
		if err != nil {
			x.t.Fatalf("the model's change: %v", err)
		}
		x.change(next)
	}
	x.say(n, byVerdict(m, v))
}

func (x *model) find(n int, e *entry, c api.Context, raw, keys []api.Node) {
	var seen []api.Step
	for _, s := range x.st.Steps {
		if s.Status == 1 || s.Status == 2 {
			seen = append(seen, s)
		}
	}
	told, warned, status, offending := worklist.Find(seen, keys)
	pending := uint16(0xFF00)
	if warned {
		pending = 0xFF01
	}
	set, _ := dict.Value(raw, api.TagCharset)
	sum := 0
	for _, nodes := range told {
		size, err := dataset.Size(nodes, api.Implicit)
		if err != nil || len(nodes) > 4095 {
			sum = 1 << 30
			break
		}
		sum += size
		e.says = append(e.says, expressed(answer(e.m, pending), nodes, set, c.Syntax))
		e.sizes = append(e.sizes, size)
	}
	if sum > 1048576 {
		status = 0xA700
	}
	if status != 0 {
		x.say(n, answer(e.m, status, offending...))
		return
	}
	e.runs = true
	e.says, e.sizes = append(e.says, answer(e.m, 0)), append(e.sizes, 0)
}

// orders reads the feed: the tests' streams have no end of a frame but true ones.
func (x *model) orders(b []byte) {
	x.feed = append(slices.Clone(x.feed), b...)
	for {
		ahead, behind, found := bytes.Cut(x.feed, []byte{0x1C, 0x0D})
		if !found {
			return
		}
		x.feed = behind
		if i := bytes.LastIndexByte(ahead, 0x0B); i >= 0 {
			x.order(string(ahead[i+1:]))
		}
	}
}

func (x *model) order(text string) {
	o, _ := feed.Parse(text)
	if len(text) > 16384 {
		o = api.Order{Code: "AR", Words: "too long"}
	}
	s, err := store.Open(diskOf(x.t, x.st), 1000)
	if err != nil {
		x.t.Fatal(err)
	}
	code, words, err := s.Order(o)
	if err != nil {
		x.t.Fatal(err)
	}
	if next := s.State(); !same(next, x.st) {
		x.change(next)
	}
	x.outs = append(x.outs, acks(o.Control, code, words))
	x.compact()
}

// look is what the document says of a line.
func (x *model) look(n int) api.LineLook {
	l := &x.lines[n]
	k := api.LineLook{Sta: l.sta, Leaving: l.leaving, Contexts: l.contexts, Most: l.most, Held: len(l.bytes) + len(l.part.command) + len(l.part.data)}
	for _, e := range l.entries {
		if e.runs {
			k.Query = true
			k.Owed += len(e.says)
			for _, size := range e.sizes {
				k.Held += size
			}
			continue
		}
		k.Queue++
		k.Held += 4096 + len(e.m.Data)
		if e.m.Cmd.Field == 0x20 && !e.marked {
			k.Owed += 257
		}
	}
	if k.Queue > 0 {
		k.Owed++
	}
	return k
}
