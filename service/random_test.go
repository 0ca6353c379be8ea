package service_test

import (
	"fmt"
	"math/rand/v2"
	"slices"
	"testing"

	"modality/api"
	"modality/dataset"
	"modality/disk"
	"modality/service"
	"modality/store"
)

func one[T any](r *rand.Rand, list ...T) T { return list[r.IntN(len(list))] }

// pair is a server and its twin, which the model has: two services over one store each.
type pair struct {
	store, twin         *store.Store
	disk, twinDisk      *disk.Disk
	services            [2]*service.Service
	models              [2]*model
	open                [2][]uint16 // Ids of requests without their final answer
	control, downs, ins int
	counts              map[uint16]int
}

func newPair(t *testing.T, st api.State) *pair {
	p := &pair{counts: map[uint16]int{}}
	p.store, p.disk = storeIn(t, st)
	p.twin, p.twinDisk = storeIn(t, st)
	p.begin()
	return p
}

// begin begins the services, as behind a start.
func (p *pair) begin() {
	for i := range p.services {
		p.services[i] = service.New(p.store, agreed())
		p.models[i] = &model{store: p.twin, contexts: agreed()}
		p.open[i] = nil
	}
}

func randomName(r *rand.Rand) string {
	return one(r, "Doe^Jane", "Doe^John", "Müller", "Łukasz^É", "Иван", "X")
}

// randomKeys are keys, seldom such as may not be asked.
func randomKeys(r *rand.Rand) []api.Node {
	var keys []api.Node
	if r.IntN(8) == 0 {
		keys = append(keys, seq(0x00040004, holding(el(api.TagCharset, one(r, "ISO_IR 100", "X"))))...)
	}
	if r.IntN(2) == 0 {
		keys = append(keys, el(api.TagCharset, one(r, "", "ISO_IR 100", "ISO_IR 192", `\ISO 2022 IR 101`, "ISO_IR 144", "ISO_IR 13")))
	}
	if r.IntN(10) == 0 {
		keys = append(keys, el(api.TagModality, one(r, "", "CT")))
	}
	keys = append(keys, el(api.TagPatientName, one(r, "", "", "", "", "*", "Doe*", "d*", "M\xFCller", "Müller")))
	if r.IntN(20) == 0 {
		keys = append(keys, el(api.TagBirthDate, "x"))
	}
	keys = append(keys, one(r, seq(api.TagSteps, holding(el(api.TagStepID, ""), el(api.TagStepStatus, one(r, "", "", "STARTED")))), seq(api.TagSteps), nil)...)
	if r.IntN(12) == 0 {
		keys = append(keys, bare(one(r, 10, 4000, api.MaxNodes-14, api.MaxNodes-1-len(keys)))...)
	}
	return keys
}

// randomSet is a data set for a request about a performed step.
func randomSet(r *rand.Rand, field uint16) []api.Node {
	nodes := begun(one(r, "S1", "S2", "S3", "Z"), one(r, "X^Y", "M\xFCller"), long("c", one(r, 0, 10, 1000)))
	if field == api.NSet {
		nodes = one(r, finish("COMPLETED"), finish("DISCONTINUED"), list(el(api.TagComments, long("d", r.IntN(900)))), nil)
	}
	if len(nodes) > 0 && r.IntN(8) == 0 {
		i := r.IntN(len(nodes))
		if nodes[i].VR != api.VRSQ && nodes[i].VR != api.VRItem {
			nodes[i].Value = one(r, "", "x")
		}
	}
	if r.IntN(3) > 0 {
		nodes = list(el(api.TagCharset, one(r, "ISO_IR 100", "ISO_IR 100", "ISO_IR 192")), nodes)
	}
	return nodes
}

func randomMessage(r *rand.Rand) api.Message {
	id := uint16(r.IntN(14))
	var m api.Message
	switch r.IntN(9) {
	case 0, 1:
		m = echo(id)
	case 2, 3, 4:
		m = asked(one[uint8](r, 3, 9), api.CFind, id, "", randomKeys(r))
	case 5:
		m = asked(one[uint8](r, 5, 11), api.NCreate, id, one(r, "1.1", "1.2", "1.3", "1.4", "1.5", ""), randomSet(r, api.NCreate))
	case 6:
		m = asked(one[uint8](r, 5, 11), api.NSet, id, one(r, "1.1", "1.2", "1.3", "1.4"), randomSet(r, api.NSet))
	case 7:
		m = get(one[uint8](r, 7, 13, 21), id, one(r, "1.1", "1.2", "1.3"), one(r, nil, []api.Tag{api.TagComments}, []api.Tag{api.TagPatientName, api.TagStudyUID})...)
	default:
		m = cancel(id)
	}
	return spoilt(r, m)
}

// asked is a request whose data set may be none that can be laid down.
func asked(context uint8, field, id uint16, uid string, nodes []api.Node) api.Message {
	m := ask(context, field, id)
	m.Cmd.Instance, m.Cmd.HasData = uid, true
	if b, err := dataset.Encode(nodes, contextOf(context).Syntax); err == nil {
		m.Data = b
	}
	return m
}

// spoilt seldom changes something of a message.
func spoilt(r *rand.Rand, m api.Message) api.Message {
	switch r.IntN(40) {
	case 0:
		m.Context = one[uint8](r, 0, 1, 3, 5, 7, 9, 11, 13, 15, 17, 19, 21, 23, 25)
	case 1:
		m.Cmd.Class = one(r, "", "1.2.3", api.UIDVerify, api.UIDWorklist, api.UIDPerform)
	case 2:
		m.Cmd.HasData = !m.Cmd.HasData
	case 3:
		m.Cmd.Field = one[uint16](r, 0, 1, 0x10, 0x21, 0x100, 0x130, 0x150, 0x8020, 0x20, 0x120, 0x0FFF)
	case 4, 5:
		if len(m.Data) > 0 {
			m.Data[r.IntN(len(m.Data))] ^= byte(1 << r.IntN(8))
		}
	case 6:
		m.Data = m.Data[:r.IntN(len(m.Data)+1)]
	case 7:
		m.Cmd.Instance, m.Cmd.Attrs = "1.1", []api.Tag{api.TagModality}
	}
	return m
}

// order is told to both stores.
func (p *pair) order(t *testing.T, r *rand.Rand) {
	p.control++
	ids := []string{one(r, "S1", "S2", "S3", "S4", "S5", "S6")}
	o := api.Order{Control: fmt.Sprint("M", p.control), Verb: 1 + r.IntN(3), IDs: ids, Steps: []api.Step{named(ids[0], randomName(r))}}
	a, _, aErr := p.store.Order(o)
	b, _, bErr := p.twin.Order(o)
	if a != b || (aErr == nil) != (bErr == nil) {
		t.Fatal("the test's twins part")
	}
	p.down(aErr != nil)
}

// down begins both anew, behind a power cut.
func (p *pair) down(is bool) {
	if !is {
		return
	}
	p.downs++
	for _, d := range []*disk.Disk{p.disk, p.twinDisk} {
		d.Cut(api.PowerCut{})
		d.Quota(api.MaxBlocks)
	}
	var err, twinErr error
	p.store, err = store.Open(p.disk, 10)
	p.twin, twinErr = store.Open(p.twinDisk, 10)
	if err != nil || twinErr != nil {
		panic(err)
	}
	p.begin()
}

// hold compares what the two did, and keeps account of the answers (P15.11).
func (p *pair) hold(t *testing.T, i int, what string, asked *api.Message, got, want api.Doing) {
	t.Helper()
	if !same(got, want) {
		t.Fatalf("%s: %s, not %s", what, shown(got), shown(want))
	}
	if asked != nil && !got.Abort && !got.Off && asked.Cmd.Field != api.CCancel && !isRepeated(got) {
		p.open[i] = append(p.open[i], asked.Cmd.Id)
	}
	for _, m := range got.Send {
		p.counts[m.Cmd.Status]++
		switch m.Cmd.Status {
		case api.StRepeated:
			if !slices.Contains(p.open[i], m.Cmd.To) {
				t.Fatalf("P15.11: %s: 0210H of an Id that is free", what)
			}
			continue
		case api.StPending, api.StWarning:
			if len(p.open[i]) == 0 || p.open[i][0] != m.Cmd.To {
				t.Fatalf("P15.11: %s: a pending answer to %d, %v are open", what, m.Cmd.To, p.open[i])
			}
			continue
		}
		if len(p.open[i]) == 0 || p.open[i][0] != m.Cmd.To {
			t.Fatalf("P15.11: %s: a final answer to %d, %v are open", what, m.Cmd.To, p.open[i])
		}
		p.open[i] = p.open[i][1:]
	}
	v := p.services[i]
	tells(t, what, v, p.models[i].looks())
	if v.Owed() == 0 != (len(p.open[i]) == 0) && !got.Off {
		t.Fatalf("P15.11: %s: owed %d, %v are open", what, v.Owed(), p.open[i])
	}
	if !same(p.store.State(), p.twin.State()) {
		t.Fatalf("%s: the state is %s, not %s", what, shown(p.store.State()), shown(p.twin.State()))
	}
	p.down(got.Off)
}

func isRepeated(d api.Doing) bool {
	return len(d.Send) == 1 && d.Send[0].Cmd.Status == api.StRepeated
}

// step is one happening.
func (p *pair) step(t *testing.T, r *rand.Rand) {
	i := r.IntN(2)
	switch n := r.IntN(100); {
	case n < 45:
		m := randomMessage(r)
		p.ins++
		p.hold(t, i, fmt.Sprintf("Take of %s", shown(m)), &m, p.services[i].Take(m), p.models[i].take(m))
	case n < 92:
		p.hold(t, i, "Turn", nil, p.services[i].Turn(), p.models[i].turn())
	case n < 97:
		p.order(t, r)
	case n < 99:
		room := one(r, api.MaxBlocks, api.MaxBlocks, 0)
		p.disk.Quota(room)
		p.twinDisk.Quota(room)
	default:
		writes := r.IntN(12)
		p.disk.Fuse(writes)
		p.twinDisk.Fuse(writes)
	}
}

// settle turns as often as is owed, and then all is answered.
func (p *pair) settle(t *testing.T) {
	for i, v := range p.services {
		for range v.Owed() {
			if v != p.services[i] {
				return // the power went
			}
			p.hold(t, i, "Turn", nil, v.Turn(), p.models[i].turn())
		}
		if v == p.services[i] {
			isIdle(t, "P15.11: behind Owed turns", v)
		}
	}
}

// TestRandom holds services against the document read another way.
func TestRandom(t *testing.T) {
	counts, downs, ins := map[uint16]int{}, 0, 0
	for seed := range uint64(60) {
		r := rand.New(rand.NewPCG(15, seed))
		st := api.State{Steps: []api.Step{named("S1", "Doe^Jane"), named("S2", "Müller"), named("S4", randomName(r))}}
		p := newPair(t, st)
		for range 400 {
			p.step(t, r)
		}
		p.settle(t)
		for s, n := range p.counts {
			counts[s] += n
		}
		downs, ins = downs+p.downs, ins+p.ins
	}
	for _, s := range []uint16{0, 0x105, 0x106, 0x110, 0x111, 0x112, 0x117, 0x118, 0x121, 0x122, 0x210, 0x211, 0x212, 0xA700, 0xA900, 0xFE00, 0xFF00, 0xFF01} {
		if counts[s] < 5 {
			t.Errorf("the test is too thin: %04X came %d times", s, counts[s])
		}
	}
	if downs < 20 || ins < 5000 {
		t.Errorf("the test is too thin: the power went %d times, %d messages", downs, ins)
	}
}
