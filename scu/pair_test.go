package scu_test

import (
	"fmt"
	"math/rand/v2"
	"slices"
	"testing"

	"modality/api"
	"modality/broker"
	"modality/feed"
	"modality/mpps"
	"modality/scu"
	"modality/store"
	"modality/worklist"
)

// A scanner and a server (P17.9): scanners stand on lines of a broker, joined by a transport that brings all bytes in order, in any pieces. What must be answered is told by an abstract server: DOC.md's tables over the state, without bytes.

// side is a scanner on a line, what is on its way to and from it, and the abstract server's part of that line.
type side struct {
	s         *scu.Scanner
	toServer  []byte
	toScanner []byte
	arrives   []arrival // requests that are on their way
	sent      int       // bytes that the scanner has sent
	came      int       // of these, bytes that the server has
	closing   bool      // the scanner has closed, behind its last bytes
	closed    bool      // the server has
	running   []api.ScuReply
	queue     []queued
	awaited   []api.ScuReply
	released  int
}

// arrival is a request, and how many bytes must have come for it to be there.
type arrival struct {
	d  api.ScuDo
	at int
}

type queued struct {
	d      api.ScuDo
	marked bool
}

// pair is a server and its scanners.
type pair struct {
	t     *testing.T
	r     *rand.Rand
	b     *broker.Broker
	st    api.State
	sides []*side
	seen  map[string]int
}

// step of the schedule, by its ID and name.
func row(id, patient string) api.Step {
	return api.Step{ID: id, Procedure: "P", Study: "1.2", PatientName: patient, PatientID: "7", Modality: "CT", Station: "CT1", Date: "20260701", Time: "083000", Status: api.StepScheduled}
}

func newPair(t *testing.T, r *rand.Rand, count int, seen map[string]int) *pair {
	t.Helper()
	img := api.DiskImage{Config: api.DiskConfig{Blocks: api.MaxBlocks, Names: 4}, Next: 1, Left: -1}
	b, err := broker.Start(api.Config{Title: "RIS", Lines: count, Artim: 3, Compact: one(r, 1, 5, 1000)}, img)
	if err != nil {
		t.Fatal(err)
	}
	p := &pair{t: t, r: r, b: b, seen: seen}
	for n := range count {
		c := randomConfig(r)
		c.Classes = append(c.Classes, api.UIDVerify, api.UIDWorklist, api.UIDPerform, api.UIDRetrieve)
		p.sides = append(p.sides, &side{s: fresh(t, c)})
		p.order(api.OrderNew, row(fmt.Sprint("S", n), "Doe^Jane"))
	}
	return p
}

func (p *pair) act(a api.Act) {
	p.t.Helper()
	outs, err := p.b.Do(a)
	if err != nil {
		p.t.Fatal(err)
	}
	for _, o := range outs {
		if o.Kind == api.OAck {
			continue
		}
		x := p.sides[o.Line]
		switch o.Kind {
		case api.OSend:
			if o.Data[0] == api.PduAbort || o.Data[0] == api.PduRJ {
				p.t.Fatalf("P17.9: the server sends %x", o.Data)
			}
			x.toScanner = append(x.toScanner, o.Data...)
		case api.OShut:
			x.closed = true
		}
	}
}

// order lets an order come; what it changes is layer 12's business.
func (p *pair) order(verb int, steps ...api.Step) {
	p.t.Helper()
	o := api.Order{Control: fmt.Sprint("M", p.r.Uint32()), Verb: verb, Steps: steps}
	if verb == api.OrderCancel {
		o.IDs, o.Steps = []string{steps[0].ID}, nil
	}
	text, err := feed.Print(o)
	if err != nil {
		p.t.Fatal(err)
	}
	p.act(api.Act{Kind: api.AFeed, Data: feed.Frame(text)})
	p.st = p.b.State()
}

// told works on what a scanner does.
func (p *pair) told(n int, outs []api.ScuOut) {
	p.t.Helper()
	x := p.sides[n]
	for _, o := range outs {
		switch o.Kind {
		case api.ScuOpen:
			x.closed, x.closing, x.sent, x.came = false, false, 0, 0
			p.act(api.Act{Kind: api.ALink, Line: n})
			p.told(n, x.s.Opened())
		case api.ScuSend:
			if o.Data[0] == api.PduAbort {
				p.t.Fatalf("P17.9: scanner %d aborts", n)
			}
			x.toServer = append(x.toServer, o.Data...)
			x.sent += len(o.Data)
		case api.ScuShut:
			x.closing = true
		case api.ScuTell:
			p.seen[fmt.Sprint("tell", o.Word)]++
			if o.Word != api.TellAccepted && o.Word != api.TellReleased {
				p.t.Fatalf("P17.9: scanner %d is told %s", n, shown(o))
			}
			if o.Word == api.TellReleased {
				x.released++
			}
		case api.ScuAnswer:
			if len(x.awaited) == 0 || !same(o.Answer, x.awaited[0]) {
				p.t.Fatalf("P17.9: scanner %d is answered %s, not %s", n, shown(o.Answer), shown(x.awaited[:min(1, len(x.awaited))]))
			}
			p.seen[fmt.Sprintf("%X %X", o.Answer.Field, o.Answer.Status)]++
			x.awaited = x.awaited[1:]
		}
	}
}

// toServer brings a piece to the server; what is whole by it arrives at the abstract one too.
func (p *pair) toServer(n, count int) {
	p.t.Helper()
	x := p.sides[n]
	count = min(count, len(x.toServer))
	x.came += count
	for len(x.arrives) > 0 && x.arrives[0].at <= x.came {
		p.arrive(x, x.arrives[0].d)
		x.arrives = x.arrives[1:]
	}
	b := x.toServer[:count:count]
	x.toServer = x.toServer[count:]
	p.act(api.Act{Kind: api.AData, Line: n, Data: b})
	if len(x.toServer) == 0 && x.closing {
		x.closing = false
		p.act(api.Act{Kind: api.ADrop, Line: n})
	}
	if got := p.b.State(); !same(got, p.st) {
		p.t.Fatalf("P17.9: the state is %s, not %s", shown(got), shown(p.st))
	}
}

func (p *pair) toScanner(n, count int) {
	p.t.Helper()
	x := p.sides[n]
	count = min(count, len(x.toScanner))
	b := x.toScanner[:count:count]
	x.toScanner = x.toScanner[count:]
	p.told(n, x.s.Take(b))
	if len(x.toScanner) == 0 && x.closed {
		x.closed = false
		p.told(n, x.s.Closed())
	}
}

// arrive is the abstract server's: a request is there.
func (p *pair) arrive(x *side, d api.ScuDo) {
	switch {
	case d.Kind != api.DoCancel && x.running != nil:
		x.queue = append(x.queue, queued{d: d})
	case d.Kind != api.DoCancel:
		p.begin(x, queued{d: d})
	case x.running != nil && x.running[0].Id == d.Id:
		x.awaited = append(x.awaited, api.ScuReply{Id: d.Id, Field: api.CFind, Status: api.StCancelled})
		x.running = nil
		p.goOn(x)
	default:
		for i := range x.queue {
			if q := &x.queue[i]; q.d.Id == d.Id && q.d.Kind == api.DoFind {
				q.marked = true
			}
		}
	}
}

// goOn begins what waits.
func (p *pair) goOn(x *side) {
	for x.running == nil && len(x.queue) > 0 {
		q := x.queue[0]
		x.queue = x.queue[1:]
		p.begin(x, q)
	}
}

// begin answers a request for the state at this moment.
func (p *pair) begin(x *side, q queued) {
	d := q.d
	reply := api.ScuReply{Id: d.Id, Field: map[int]uint16{api.DoEcho: 0x30, api.DoFind: 0x20, api.DoCreate: 0x140, api.DoSet: 0x120, api.DoGet: 0x110}[d.Kind]}
	var v api.Verdict
	switch {
	case q.marked:
		reply.Status = api.StCancelled
	case d.Kind == api.DoFind:
		p.query(x, reply, d.Nodes)
		return
	case d.Kind == api.DoGet:
		v = mpps.Get(p.st, d.UID, d.Attrs)
		reply.HasData, reply.Nodes = v.Status == api.StSuccess, v.Data
	case d.Kind == api.DoCreate:
		v = mpps.Create(p.st, d.UID, d.Nodes)
	case d.Kind == api.DoSet:
		v = mpps.Set(p.st, d.UID, d.Nodes)
	}
	if d.Kind >= api.DoCreate {
		reply.Instance, reply.Status, reply.ErrorId, reply.Offending = d.UID, v.Status, v.ErrorId, v.Offending
	}
	if v.Change.Kind != 0 {
		st, err := store.Apply(p.st, v.Change)
		if err != nil {
			p.t.Fatal(err)
		}
		p.st = st
	}
	x.awaited = append(x.awaited, reply)
}

// query sets the answers of a C-FIND.
func (p *pair) query(x *side, reply api.ScuReply, keys []api.Node) {
	schedule := slices.DeleteFunc(slices.Clone(p.st.Steps), func(s api.Step) bool { return s.Status != api.StepScheduled && s.Status != api.StepStarted })
	found, warned, status, offending := worklist.Find(schedule, keys)
	if status != api.StSuccess {
		reply.Status, reply.Offending = status, offending
		x.awaited = append(x.awaited, reply)
		return
	}
	for _, nodes := range found {
		a := reply
		a.Status, a.HasData, a.Nodes = api.StPending, true, nodes
		if warned {
			a.Status = api.StWarning
		}
		x.running = append(x.running, a)
	}
	x.running = append(x.running, reply)
}

func (p *pair) turn() {
	p.t.Helper()
	for _, x := range p.sides {
		if x.running == nil {
			continue
		}
		x.awaited = append(x.awaited, x.running[0])
		if x.running = x.running[1:]; len(x.running) == 0 {
			x.running = nil
			p.goOn(x)
		}
	}
	p.act(api.Act{Kind: api.ATurn, Count: 1})
}

// performed is the data set D of chapter 14, about a step.
func performed(id, patient, comment string) []api.Node {
	about := holding(el(api.TagAccession, ""), el(api.TagRefStudies, ""), el(api.TagStudyUID, "1.2"), el(api.TagProcedureDesc, ""),
		el(api.TagStepDesc, ""), el(api.TagProtocolCodes, ""), el(api.TagStepID, id), el(api.TagProcedureID, ""))
	return list(el(api.TagModality, "CT"), el(api.TagProcedureCodes, ""), el(api.TagRefPatients, ""), name(patient),
		el(api.TagPatientID, "7"), el(api.TagBirthDate, ""), el(api.TagSex, ""), el(api.TagStudyID, ""), el(api.TagDoneStationAE, "CT1"),
		el(api.TagDoneStation, ""), el(api.TagDoneLocation, ""), el(api.TagDoneDate, "20260701"), el(api.TagDoneTime, "0830"),
		el(api.TagEndDate, ""), el(api.TagEndTime, ""), el(api.TagDoneStatus, "IN PROGRESS"), el(api.TagDoneID, "P1"),
		el(api.TagDoneDesc, ""), el(api.TagDoneType, ""), el(api.TagDoneProtocols, ""), seq(api.TagStepAttributes, about),
		el(api.TagComments, comment), el(api.TagSeries, ""))
}

// finish is what a Set says that ends a step.
func finish(word string) []api.Node {
	series := holding(el(api.TagRetrieveAE, ""), el(api.TagSeriesDesc, ""), el(api.TagPerformerName, ""), el(api.TagOperators, ""),
		el(api.TagRefImages, ""), el(api.TagProtocol, "Head"), el(api.TagSeriesUID, "1.2.3"))
	return list(el(api.TagEndDate, "20260701"), el(api.TagEndTime, "0915"), el(api.TagDoneStatus, word), seq(api.TagSeries, series))
}

func randomPatient(r *rand.Rand) string {
	return one(r, "Doe^Jane", "Müller", "Łukasz^É", "Иван", "X^Y")
}

// scannerDoes is a request as a scanner's user may make it.
func scannerDoes(r *rand.Rand, waiting []uint16) api.ScuDo {
	d := api.ScuDo{Kind: one(r, api.DoEcho, api.DoFind, api.DoFind, api.DoFind, api.DoCancel, api.DoCreate, api.DoSet, api.DoGet), Id: uint16(r.IntN(1 << 16))}
	d.UID, d.Charset = one(r, "1.1", "1.2", "1.3", "1.4", "1.5"), one(r, "", "ISO_IR 100", "ISO_IR 192", `\ISO 2022 IR 101`, "ISO_IR 144")
	step := fmt.Sprint("S", r.IntN(8))
	switch d.Kind {
	case api.DoFind:
		d.Nodes = list(name(one(r, "", "", "*", "d*", "Mü*", "X")), one(r, nil, nil, nil, list(el(api.TagBirthDate, "x"))), seq(api.TagSteps, holding(el(api.TagStepID, ""), el(api.TagStepStatus, ""))), one(r, nil, nil, list(el(api.TagComments, "y"))))
	case api.DoCreate:
		d.UID = one(r, d.UID, d.UID, d.UID, d.UID, "")
		d.Nodes = one(r, performed(step, randomPatient(r), "größer"), performed(step, randomPatient(r), ""), performed(step, "x", "")[1:])
	case api.DoSet:
		d.Nodes = one(r, finish("COMPLETED"), finish("DISCONTINUED"), list(el(api.TagComments, randomPatient(r))), list(el(api.TagModality, "MR")), nil)
	case api.DoGet:
		d.Attrs = one(r, nil, []api.Tag{api.TagComments, api.TagPatientName}, []api.Tag{api.TagDoneStatus, api.TagStudyUID})
	case api.DoCancel:
		if len(waiting) > 0 {
			d.Id = one(r, waiting...)
		}
	}
	return d
}

// user lets a scanner's user do something that P17.9 allows.
func (p *pair) user(n int) {
	p.t.Helper()
	x := p.sides[n]
	st := x.s.State()
	switch {
	case st.Sta == 1 && p.b.Line(n).Sta == 1 && len(x.toServer) == 0:
		p.told(n, do(p.t, x.s, kind(api.DoConnect)))
	case st.Sta == 6 && len(st.Waiting) == 0 && p.r.IntN(12) == 0:
		p.told(n, do(p.t, x.s, kind(api.DoRelease)))
	case st.Sta == 6 && len(st.Waiting) <= api.MaxQueue:
		d := scannerDoes(p.r, st.Waiting)
		outs, err := x.s.Do(d)
		if err != nil {
			return
		}
		p.told(n, outs)
		x.arrives = append(x.arrives, arrival{d, x.sent})
	}
}

// tick lets the timers go on, where none may run out ahead of a request for an association.
func (p *pair) tick() {
	for n := range p.sides {
		if p.b.Line(n).Sta == 2 {
			return
		}
	}
	p.act(api.Act{Kind: api.ATick, Count: 1})
}

func (p *pair) step() {
	p.t.Helper()
	n := p.r.IntN(len(p.sides))
	count := one(p.r, 1, 1+p.r.IntN(40), 1+p.r.IntN(400), 1<<20)
	switch p.r.IntN(16) {
	case 0, 1, 2, 3:
		p.user(n)
	case 4, 5, 6, 7, 8:
		p.toServer(n, count)
	case 9, 10, 11, 12:
		p.toScanner(n, count)
	case 13, 14:
		p.turn()
	case 15:
		switch p.r.IntN(8) {
		case 0:
			p.tick()
		case 1:
			p.order(1+p.r.IntN(3), row(fmt.Sprint("S", p.r.IntN(8)), randomPatient(p.r)))
		}
	}
}

// drain brings everything, and lets turns come until nothing is owed.
func (p *pair) drain() {
	p.t.Helper()
	for quiet := false; !quiet; {
		quiet = true
		for n, x := range p.sides {
			for len(x.toServer) > 0 || len(x.toScanner) > 0 || x.closing || x.closed {
				p.toServer(n, 1<<20)
				p.toScanner(n, 1<<20)
			}
			quiet = quiet && p.b.Owed(n) == 0
		}
		if !quiet {
			p.turn()
		}
	}
}

// finish drains, and releases what is still associated.
func (p *pair) finish() {
	p.t.Helper()
	p.drain()
	for n, x := range p.sides {
		if len(x.awaited) > 0 || len(x.queue) > 0 || x.running != nil {
			p.t.Fatalf("P17.9: scanner %d is owed %s", n, shown(x.awaited))
		}
		if st := x.s.State(); st.Waiting != nil || st.Sta != 1 && st.Sta != 6 {
			p.t.Fatalf("P17.9: scanner %d: %s", n, shown(st))
		}
		if x.s.State().Sta == 6 {
			was := x.released
			p.told(n, do(p.t, x.s, kind(api.DoRelease)))
			p.drain()
			if x.released != was+1 || x.s.State().Sta != 1 || p.b.Line(n).Sta != 1 {
				p.t.Fatalf("P17.9: scanner %d is not released", n)
			}
		}
	}
}

// TestPair: scanners and a server that talk (P17.9).
func TestPair(t *testing.T) {
	seen := map[string]int{}
	for seed := range uint64(120) {
		r := rand.New(rand.NewPCG(17, 900+seed))
		p := newPair(t, r, 1+r.IntN(5), seen)
		for range 1000 {
			p.step()
		}
		p.finish()
	}
	for _, what := range []string{"tell2", "tell6", "30 0", "20 0", "20 FF00", "20 FF01", "20 A900", "20 FE00", "140 0", "140 111", "140 117", "140 120", "120 0", "120 110", "120 112", "110 0", "110 112"} {
		if seen[what] < 10 {
			t.Errorf("the test's talks have %d of %s", seen[what], what)
		}
	}
	if t.Failed() {
		t.Log(seen)
	}
}

// TestPairQueue: MaxQueue requests wait behind a query, and all are answered; with one more the server aborts, which is told.
func TestPairQueue(t *testing.T) {
	for _, more := range []int{0, 1} {
		r := rand.New(rand.NewPCG(17, 5))
		p := newPair(t, r, 1, map[string]int{})
		x := p.sides[0]
		p.user(0)
		p.drain()
		ask := func(d api.ScuDo) {
			p.told(0, do(t, x.s, d))
			x.arrives = append(x.arrives, arrival{d, x.sent})
		}
		ask(find(1, list(name(""), seq(api.TagSteps, holding(el(api.TagStepID, ""))))...))
		for i := range api.MaxQueue {
			ask(one(r, echo(uint16(10+i)), create(uint16(10+i), fmt.Sprint("1.", i), performed("S0", "X", "")...)))
		}
		if more == 0 {
			p.toServer(0, 1<<20)
			if got := p.b.Line(0); got.Queue != 8 || !got.Query {
				t.Fatalf("the test's own queue: %s", shown(got))
			}
			p.finish()
			continue
		}
		outs, err := p.b.Do(api.Act{Kind: api.AData, Data: append(x.toServer, do(t, x.s, echo(99))[0].Data...)})
		if err != nil || len(outs) != 1 {
			t.Fatalf("P16.5: %s, %v", shown(outs), err)
		}
		gives(t, "P17.4: the server aborts", x.s.Take(outs[0].Data), saysPdu(api.TellAbort, aborting(0, 0)), shuts())
		isIn(t, "P17.4: the server aborts", x.s, api.ScuState{Sta: 1})
	}
}

// TestPairRefused: a server that does not want the scanner says so.
func TestPairRefused(t *testing.T) {
	p := newPair(t, rand.New(rand.NewPCG(17, 6)), 1, map[string]int{})
	c := exampleConfig()
	c.Called = "OTHER"
	s := fresh(t, c)
	do(t, s, kind(api.DoConnect))
	p.act(api.Act{Kind: api.ALink})
	outs, err := p.b.Do(api.Act{Kind: api.AData, Data: s.Opened()[0].Data})
	if err != nil || len(outs) != 1 {
		t.Fatalf("P16.4: %s, %v", shown(outs), err)
	}
	gives(t, "P17.4: rejected", s.Take(outs[0].Data), saysPdu(api.TellRejected, api.Pdu{Kind: api.PduRJ, Result: 1, Source: 1, Reason: 7}), shuts())
}
