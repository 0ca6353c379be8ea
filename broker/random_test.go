package broker_test

import (
	"fmt"
	"math/rand/v2"
	"slices"
	"strings"
	"testing"

	"modality/api"
	"modality/broker"
	"modality/dataset"
	"modality/disk"
	"modality/feed"
	"modality/pdu"
)

func one[T any](r *rand.Rand, list ...T) T { return list[r.IntN(len(list))] }

func randomName(r *rand.Rand) string {
	return one(r, "Doe^Jane", "Doe^John", "Müller", "Łukasz^É", "Иван", "X")
}

// randomKeys are keys, seldom such as may not be asked.
func randomKeys(r *rand.Rand) []api.Node {
	var keys []api.Node
	if r.IntN(2) == 0 {
		keys = append(keys, el(api.TagCharset, one(r, "", "ISO_IR 100", "ISO_IR 192", `\ISO 2022 IR 101`, "ISO_IR 144", "ISO_IR 13")))
	}
	if r.IntN(10) == 0 {
		keys = append(keys, el(api.TagModality, one(r, "", "CT")))
	}
	keys = append(keys, el(api.TagPatientName, one(r, "", "", "", "", "*", "Doe*", "d*", "M\xFCller", "Müller")))
	if r.IntN(20) == 0 {
		keys = append(keys, el(api.TagBirthDate, "x"))
	}
	keys = append(keys, one(r, seq(api.TagSteps, holding(el(api.TagStepID, ""), el(api.TagStepStatus, one(r, "", "", "STARTED")))), seq(api.TagSteps), nil)...)
	if r.IntN(20) == 0 {
		keys = append(keys, bare(one(r, 10, 1000, 4000))...)
	}
	return keys
}

// randomSet is a data set for a request about a performed step.
func randomSet(r *rand.Rand, field uint16) []api.Node {
	nodes := performed(one(r, "S1", "S2", "S3", "Z"), one(r, "X^Y", "X^Y", "M\xFCller"), strings.Repeat("c", one(r, 0, 10, 1000)))
	if field == api.NSet {
		nodes = one(r, finish("COMPLETED"), finish("DISCONTINUED"), list(el(api.TagComments, strings.Repeat("d", r.IntN(900)))), nil)
	}
	if len(nodes) > 0 && r.IntN(16) == 0 {
		i := r.IntN(len(nodes))
		if nodes[i].VR != api.VRSQ && nodes[i].VR != api.VRItem {
			nodes[i].Value = one(r, "", "x")
		}
	}
	if r.IntN(8) > 0 {
		nodes = list(el(api.TagCharset, one(r, "ISO_IR 100", "ISO_IR 100", "ISO_IR 192")), nodes)
	}
	return nodes
}

// maybeWith is a request whose data set may be none that can be laid down.
func maybeWith(context uint8, field, id uint16, uid string, nodes []api.Node) api.Message {
	m := ask(context, field, id)
	m.Cmd.Instance, m.Cmd.HasData = uid, true
	if b, err := dataset.Encode(nodes, contextOf(context).Syntax); err == nil {
		m.Data = b
	}
	return m
}

func randomMessage(r *rand.Rand) api.Message {
	id := uint16(r.IntN(14))
	uid := one(r, "1.1", "1.2", "1.3", "1.4", "1.5")
	var m api.Message
	switch r.IntN(10) {
	case 0, 1:
		m = echo(id)
	case 2, 3, 4:
		m = maybeWith(one[uint8](r, 3, 9), api.CFind, id, "", randomKeys(r))
	case 5:
		m = maybeWith(one[uint8](r, 5, 11), api.NCreate, id, one(r, uid, uid, uid, ""), randomSet(r, api.NCreate))
	case 6:
		m = maybeWith(one[uint8](r, 5, 11), api.NSet, id, uid, randomSet(r, api.NSet))
	case 7:
		m = get(id, uid, one(r, nil, []api.Tag{api.TagComments}, []api.Tag{api.TagPatientName, api.TagStudyUID})...)
		m.Context = one[uint8](r, 7, 13)
	default:
		m = cancel(id)
	}
	if r.IntN(60) == 0 {
		m.Context = one[uint8](r, 1, 3, 5, 7, 9, 11, 13, 15)
	}
	return m
}

// randomPdus is a message in PDUs, cut in any way; seldom with a byte spoilt, or without its end.
func randomPdus(r *rand.Rand, m api.Message) []byte {
	values := fragments(m, one(r, 16000, 16000, 16000, 200, 31))
	var b []byte
	for len(values) > 0 {
		n := 1 + r.IntN(len(values))
		size := 0
		for i, v := range values[:n] {
			if size += 6 + len(v.Data); size > 16384 {
				n = max(i, 1)
				break
			}
		}
		b = append(b, dataPdu(values[:n]...)...)
		values = values[n:]
	}
	switch r.IntN(120) {
	case 0, 1:
		b[r.IntN(len(b))] ^= byte(1 << r.IntN(8))
	case 2:
		b = b[:r.IntN(len(b))]
	}
	return b
}

// randomRQ is a request for an association, mostly one that is taken.
func randomRQ(r *rand.Rand) []byte {
	rq := asking(one[uint32](r, 0, 64, 65, 200, 16384, 1<<32-1))
	switch r.IntN(12) {
	case 0:
		rq.Assoc.User.MaxLength = 63
	case 1:
		rq.Assoc.Called = "X"
	case 2:
		rq.Assoc.Contexts = rq.Assoc.Contexts[:1+r.IntN(6)]
	case 3:
		rq.Assoc.Contexts[r.IntN(7)].Syntaxes = []string{"1.2"}
	}
	return laid(rq)
}

// randomBytes is what comes on a line in a state.
func randomBytes(r *rand.Rand, sta int) []byte {
	odd := one(r, unknownPdu(), invalidPdu(), aborting(0, 0), aborting(2, 1), releaseRP(), releaseRQ(), accepting(), rejecting(1, 1, 1), laid(asking(64)), []byte{4, 0, 0, 0, 0x40, 1}, []byte{1, 2, 3})
	switch {
	case r.IntN(40) == 0:
		return odd
	case sta == 2 && r.IntN(3) == 0:
		return slices.Concat(randomRQ(r), randomPdus(r, randomMessage(r)))
	case sta == 2:
		return randomRQ(r)
	case sta == 8 && r.IntN(8) > 0:
		return nil
	case sta == 13 && r.IntN(3) > 0:
		return odd
	case sta == 6 && r.IntN(25) == 0:
		return slices.Concat(randomPdus(r, randomMessage(r)), releaseRQ())
	}
	var b []byte
	for range 1 + r.IntN(3) {
		b = append(b, randomPdus(r, randomMessage(r))...)
	}
	return b
}

func randomFeed(r *rand.Rand, control *int) []byte {
	if r.IntN(4) > 0 {
		*control++
	}
	id := one(r, "S1", "S2", "S3", "S4", "S5", "S6")
	frame := ordering(fmt.Sprint("M", *control), 1+r.IntN(3), named(id, randomName(r)))
	switch r.IntN(12) {
	case 0:
		return feed.Frame("MSH|^~\\&|||||||ADT^A01|M9|P|2.3.1")
	case 1:
		return feed.Frame(strings.Repeat("x", 16384+r.IntN(2)))
	case 2:
		return frame[:r.IntN(len(frame))]
	case 3:
		return append(frame, ordering("T"+fmt.Sprint(*control), api.OrderNew, row(id))...)
	}
	return frame
}

func randomKeeps(r *rand.Rand) api.PowerCut {
	k := api.PowerCut{Dir: r.IntN(3)}
	for id := range uint64(6) {
		if r.IntN(2) == 0 {
			k.Files = append(k.Files, api.DiskKeep{Id: id, Units: one(r, 0, 1, 30, 400, 1<<20)})
		}
	}
	return k
}

// cutUp is what comes on a line in one Act, or in several.
func cutUp(r *rand.Rand, n int, b []byte) []api.Act {
	var acts []api.Act
	for r.IntN(3) == 0 && len(b) > 1 {
		i := 1 + r.IntN(len(b)-1)
		acts = append(acts, data(n, b[:i]))
		b = b[i:]
	}
	return append(acts, data(n, b))
}

// randomActs are the next Acts of a script, by what the model knows of the server.
func randomActs(r *rand.Rand, x *model, control *int) []api.Act {
	if !x.up && r.IntN(3) > 0 {
		return []api.Act{start()}
	}
	n := one(r, r.IntN(4), r.IntN(4), r.IntN(16))
	sta := x.lines[n].sta
	switch r.IntN(40) {
	case 0:
		return []api.Act{one(r, power(randomKeeps(r)), turn(3), turn(4), turn(100), tick(1))}
	case 1:
		return []api.Act{fuse(one(r, 0, 1, 2, 3, 4, 5, 6, 7, 9, 15, 40), randomKeeps(r))}
	case 2:
		return []api.Act{drop(n)}
	case 3:
		return []api.Act{tick(1 + r.IntN(3))}
	case 4, 5, 6, 7, 8:
		return []api.Act{fed(randomFeed(r, control))}
	case 9:
		return []api.Act{feedLink()}
	case 10, 11, 12, 13, 14, 15, 16:
		return []api.Act{turn(one(r, 0, 1, 1, 1, 2, 3, 40))}
	case 17:
		return []api.Act{one(r, start(), room(60000+r.IntN(5)), link(n), tick(0))}
	}
	if sta == 1 {
		return []api.Act{link(n)}
	}
	return cutUp(r, n, randomBytes(r, sta))
}

// player plays a script on a server and on the model.
type player struct {
	t      *testing.T
	r      *rand.Rand
	b      *broker.Broker
	x      *model
	script []api.Act
	outs   [][]api.Out
	seen   map[string]int
}

// play lets an Act happen, and holds the server against the model.
func (p *player) play(a api.Act) {
	p.t.Helper()
	outs, err := p.b.Do(a)
	if err != nil {
		p.t.Fatalf("P16.2: %s: %v", shown(a), err)
	}
	p.script, p.outs = append(p.script, a), append(p.outs, outs)
	want := p.x.do(a)
	if a.Kind == api.AStart && !p.x.up {
		want = p.settle(outs)
	}
	if !same(outs, want) {
		p.t.Fatalf("Act %d, %s: %s, not %s", len(p.script), shown(a), shown(outs), shown(want))
	}
	for _, o := range outs {
		p.seen[[]string{"", "send", "shut", "ack", "down", "up"}[o.Kind]]++
		if o.Kind == api.OSend {
			p.readable(o)
		}
	}
	for n := range 16 {
		got := p.b.Line(n)
		if want := p.x.look(n); !same(got, want) {
			p.t.Fatalf("Act %d, %s: line %d: %s, not %s", len(p.script), shown(a), n, shown(got), shown(want))
		}
		if got.Held != p.b.Held(n) || got.Owed != p.b.Owed(n) || got.Held > most {
			p.t.Fatalf("Act %d: line %d holds %d, owes %d", len(p.script), n, p.b.Held(n), p.b.Owed(n))
		}
	}
	state := p.x.st
	if !p.x.up {
		state = api.State{}
	}
	if p.b.Up() != p.x.up || !same(p.b.State(), state) {
		p.t.Fatalf("Act %d, %s: up %v, %s, not %v, %s", len(p.script), shown(a), p.b.Up(), shown(p.b.State()), p.x.up, shown(state))
	}
	p.durable()
}

// settle is what a start came to: the power may fail in its recovery, which takes three to five writes.
func (p *player) settle(outs []api.Out) []api.Out {
	x := p.x
	mustRise, mustFall := x.left < 0 || x.left >= 5, x.left >= 0 && x.left < 3
	isUp := same(outs, []api.Out{{Kind: api.OUp}})
	if mustFall || !mustRise && !isUp {
		x.left = -1
		return []api.Out{{Kind: api.ODown}}
	}
	x.st = p.b.State()
	if !slices.ContainsFunc(x.may, func(st api.State) bool { return same(st, x.st) }) {
		p.t.Fatalf("W2: a start finds %s, not %s", shown(x.st), shown(x.may))
	}
	x.up, x.left, x.records, x.may = true, p.b.Disk().Left, len(journalOn(p.t, p.b).Records), nil
	return []api.Out{{Kind: api.OUp}}
}

// readable: layer 8 reads what goes out (W6), and it is no longer than the other side wants (W1).
func (p *player) readable(o api.Out) {
	d, err := pdu.Decode(o.Data)
	if err != nil {
		p.t.Fatalf("W6: %v", err)
	}
	if most := p.b.Line(o.Line).Most; d.Kind == api.PduData && most > 0 && len(o.Data)-6 > most {
		p.t.Fatalf("W1: %d bytes", len(o.Data))
	}
}

// durable: cut at this moment, with any Keeps, the disk gives a server with the same state (W2).
func (p *player) durable() {
	if !p.b.Up() || p.r.IntN(15) > 0 {
		return
	}
	d, err := disk.Load(p.b.Disk())
	if err != nil {
		p.t.Fatal(err)
	}
	d.Cut(randomKeeps(p.r))
	again, err := broker.Start(p.x.c, d.Image())
	if err != nil || !same(again.State(), p.x.st) {
		p.t.Fatalf("W2: behind Act %d: %v", len(p.script), err)
	}
}

// TestRandom: long scripts, held against the second reading.
func TestRandom(t *testing.T) {
	seen := map[string]int{}
	for seed := range uint64(60) {
		r := rand.New(rand.NewPCG(16, seed))
		c := api.Config{Title: "MWL", Lines: one(r, 1, 3, 16), Artim: 1 + r.IntN(8), Compact: one(r, 1, 2, 5, 1000)}
		st := api.State{Steps: []api.Step{named("S1", "Doe^Jane"), named("S2", "Müller"), named("S3", "Łukasz^É")}, Control: "M0"}
		d := diskOf(t, st)
		d.Create("slot.b") // as a server leaves it: the model's compactions have no name to make
		d.SyncDir()
		img := d.Image()
		p := &player{t: t, r: r, b: begun(t, c, img), x: newModel(t, c, st), seen: seen}
		control := 0
		for len(p.script) < 400 {
			for _, a := range randomActs(r, p.x, &control) {
				p.play(a)
			}
		}
		for n := range 16 {
			seen[fmt.Sprint("sta", p.b.Line(n).Sta)]++
		}
		got, err := broker.Run(c, img, p.script)
		if err != nil || !same(got, p.outs) {
			t.Fatalf("W11: seed %d: a script has two outcomes: %v", seed, err)
		}
	}
	for _, what := range []string{"send", "shut", "ack", "down", "up", "sta1", "sta2", "sta6", "sta13"} {
		if seen[what] < 20 {
			t.Errorf("the test's scripts have %d of %s", seen[what], what)
		}
	}
}
