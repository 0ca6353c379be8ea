package broker_test

import (
	"fmt"
	"maps"
	"reflect"
	"slices"
	"testing"

	"modality/api"
	"modality/broker"
	"modality/dataset"
	"modality/dict"
	"modality/dimse"
	"modality/disk"
	"modality/feed"
	"modality/journal"
	"modality/pdu"
	"modality/store"
)

func same(a, b any) bool { return reflect.DeepEqual(a, b) }

// shown tells the beginning of anything.
func shown(x any) string { return fmt.Sprintf("%.1500s", fmt.Sprintf("%+v", x)) }

// isFault tells whether an error is this layer's fault at this place with this reason.
func isFault(err error, at int, reason error) bool {
	f, ok := err.(*api.Fault)
	return ok && f != nil && f.Layer == "broker" && f.At == at && f.Err == reason
}

// config is the configuration of the document's examples.
func config() api.Config {
	return api.Config{Title: "MWL", Lines: 2, Artim: 3, Compact: 5}
}

// wideConfig is one in which no line is too many, and compactions are far away.
func wideConfig() api.Config {
	return api.Config{Title: "MWL", Lines: 16, Artim: 5, Compact: 1000}
}

// fresh is a disk without files.
func fresh() api.DiskImage {
	return api.DiskImage{Config: api.DiskConfig{Blocks: api.MaxBlocks, Names: 4}, Next: 1, Left: -1}
}

// diskOf is a disk on which a store has this state.
func diskOf(t *testing.T, st api.State) *disk.Disk {
	t.Helper()
	mutations, err := store.Base(st)
	if err != nil {
		t.Fatal(err)
	}
	var base [][]byte
	for _, m := range mutations {
		b, err := store.Encode(m)
		if err != nil {
			t.Fatal(err)
		}
		base = append(base, b)
	}
	head, err := journal.Head(1, base)
	if err != nil {
		t.Fatal(err)
	}
	return diskWith(t, map[string][]byte{"slot.a": head})
}

// diskWith is a disk that holds these files.
func diskWith(t *testing.T, files map[string][]byte) *disk.Disk {
	t.Helper()
	d, err := disk.Load(fresh())
	if err != nil {
		t.Fatal(err)
	}
	for _, name := range slices.Sorted(maps.Keys(files)) {
		b := files[name]
		for _, e := range []api.Errno{d.Create(name), d.Append(name, b), d.Sync(name), d.SyncDir()} {
			if e != api.OK {
				t.Fatal(e)
			}
		}
	}
	return d
}

// begun is a server over a disk.
func begun(t *testing.T, c api.Config, img api.DiskImage) *broker.Broker {
	t.Helper()
	b, err := broker.Start(c, img)
	if err != nil || b == nil {
		t.Fatalf("P16.1: %v", err)
	}
	return b
}

// over is a server with wideConfig that has this state.
func over(t *testing.T, st api.State) *broker.Broker {
	t.Helper()
	return begun(t, wideConfig(), diskOf(t, st).Image())
}

// The happenings.
func link(n int) api.Act               { return api.Act{Kind: api.ALink, Line: n} }
func drop(n int) api.Act               { return api.Act{Kind: api.ADrop, Line: n} }
func feedLink() api.Act                { return api.Act{Kind: api.AFeedLink} }
func fed(b ...[]byte) api.Act          { return api.Act{Kind: api.AFeed, Data: slices.Concat(b...)} }
func turn(k int) api.Act               { return api.Act{Kind: api.ATurn, Count: k} }
func tick(k int) api.Act               { return api.Act{Kind: api.ATick, Count: k} }
func room(k int) api.Act               { return api.Act{Kind: api.ARoom, Count: k} }
func power(keeps api.PowerCut) api.Act { return api.Act{Kind: api.APower, Keeps: keeps} }
func start() api.Act                   { return api.Act{Kind: api.AStart} }

func fuse(k int, keeps api.PowerCut) api.Act {
	return api.Act{Kind: api.AFuse, Count: k, Keeps: keeps}
}

func data(n int, b ...[]byte) api.Act {
	return api.Act{Kind: api.AData, Line: n, Data: slices.Concat(b...)}
}

// all keeps everything that a power cut may keep.
func all() api.PowerCut {
	k := api.PowerCut{Dir: 1 << 20}
	for id := range uint64(20) {
		k.Files = append(k.Files, api.DiskKeep{Id: id + 1, Units: 1 << 30})
	}
	return k
}

func none() api.PowerCut { return api.PowerCut{} }

func do(t *testing.T, b *broker.Broker, acts ...api.Act) []api.Out {
	t.Helper()
	var all []api.Out
	for _, a := range acts {
		outs, err := b.Do(a)
		if err != nil {
			t.Fatalf("P16.2: %s: %v", shown(a), err)
		}
		all = append(all, outs...)
	}
	return all
}

// gives: an Act has just these Outs.
func gives(t *testing.T, what string, b *broker.Broker, a api.Act, want ...api.Out) {
	t.Helper()
	outs, err := b.Do(a)
	if err != nil {
		t.Fatalf("%s: refused: %v", what, err)
	}
	if !same(outs, want) {
		t.Fatalf("%s: %s, not %s", what, shown(outs), shown(want))
	}
}

func isIn(t *testing.T, what string, b *broker.Broker, n, sta int) {
	t.Helper()
	if got := b.Line(n).Sta; got != sta {
		t.Fatalf("%s: line %d is in Sta%d, not in Sta%d", what, n, got, sta)
	}
}

func isIdle(t *testing.T, what string, b *broker.Broker, n int) {
	t.Helper()
	if got := b.Line(n); !same(got, api.LineLook{Sta: 1}) {
		t.Fatalf("%s: line %d is not idle: %s", what, n, shown(got))
	}
}

func hasState(t *testing.T, what string, b *broker.Broker, want api.State) {
	t.Helper()
	if got := b.State(); !same(got, want) {
		t.Fatalf("%s: the state is %s, not %s", what, shown(got), shown(want))
	}
}

// The PDUs.
func laid(p api.Pdu) []byte {
	b, err := pdu.Encode(p)
	if err != nil {
		panic(err)
	}
	return b
}

func releaseRQ() []byte { return []byte{5, 0, 0, 0, 0, 4, 0, 0, 0, 0} }
func releaseRP() []byte { return []byte{6, 0, 0, 0, 0, 4, 0, 0, 0, 0} }

func aborting(source, reason byte) []byte {
	return []byte{7, 0, 0, 0, 0, 4, 0, 0, source, reason}
}

func rejecting(result, source, reason byte) []byte {
	return []byte{3, 0, 0, 0, 0, 4, 0, result, source, reason}
}

func unknownPdu() []byte { return []byte{9, 0, 0, 0, 0, 0} }
func invalidPdu() []byte { return []byte{4, 0, 0, 0, 0, 0} }

func sends(n int, pdus ...[]byte) []api.Out {
	var outs []api.Out
	for _, b := range pdus {
		outs = append(outs, api.Out{Kind: api.OSend, Line: n, Data: b})
	}
	return outs
}

func shuts(n int) api.Out { return api.Out{Kind: api.OShut, Line: n} }
func downs() api.Out      { return api.Out{Kind: api.ODown} }
func ups() api.Out        { return api.Out{Kind: api.OUp} }

// agreed are the contexts of the tests: every class, in both syntaxes.
func agreed() []api.Context {
	return []api.Context{
		{Id: 1, Class: api.UIDVerify, Syntax: api.Implicit},
		{Id: 3, Class: api.UIDWorklist, Syntax: api.Implicit},
		{Id: 5, Class: api.UIDPerform, Syntax: api.Explicit},
		{Id: 7, Class: api.UIDRetrieve, Syntax: api.Implicit},
		{Id: 9, Class: api.UIDWorklist, Syntax: api.Explicit},
		{Id: 11, Class: api.UIDPerform, Syntax: api.Implicit},
		{Id: 13, Class: api.UIDRetrieve, Syntax: api.Explicit},
	}
}

func contextOf(id uint8) api.Context {
	for _, c := range agreed() {
		if c.Id == id {
			return c
		}
	}
	return api.Context{}
}

// asking is an A-ASSOCIATE-RQ for the tests' contexts, with such a maximum length.
func asking(most uint32) api.Pdu {
	var contexts []api.PresContext
	for _, c := range agreed() {
		contexts = append(contexts, api.PresContext{Id: c.Id, Class: c.Class, Syntaxes: []string{uidOf(c.Syntax)}})
	}
	user := api.UserInfo{HasMax: true, MaxLength: most, Class: "1.2.3"}
	return api.Pdu{Kind: api.PduRQ, Assoc: api.Associate{Version: 1, Called: "MWL", Calling: "CT1", App: api.UIDContext, Contexts: contexts, User: user}}
}

func uidOf(s api.Syntax) string {
	if s == api.Explicit {
		return api.UIDExplicit
	}
	return api.UIDImplicit
}

// accepting is the A-ASSOCIATE-AC that answers asking.
func accepting() []byte {
	var contexts []api.PresContext
	for _, c := range agreed() {
		contexts = append(contexts, api.PresContext{Id: c.Id, Syntaxes: []string{uidOf(c.Syntax)}})
	}
	user := api.UserInfo{HasMax: true, MaxLength: 16384, Class: "1.2.826.0.1.3680043.10.1414", Name: "MODALITY_1"}
	return laid(api.Pdu{Kind: api.PduAC, Assoc: api.Associate{Version: 1, Called: "MWL", Calling: "CT1", App: api.UIDContext, Contexts: contexts, User: user}})
}

// associate lets a line have an association.
func associate(t *testing.T, b *broker.Broker, n int, most uint32) {
	t.Helper()
	gives(t, "P16.3: a link", b, link(n))
	gives(t, "P16.4: an association", b, data(n, laid(asking(most))), sends(n, accepting())...)
	isIn(t, "P16.4: an association", b, n, 6)
}

// fragments are a message's, each of at most so many bytes.
func fragments(m api.Message, size int) []api.Pdv {
	command, err := dimse.EncodeCmd(m.Cmd)
	if err != nil {
		panic(err)
	}
	var list []api.Pdv
	part := func(isCommand bool, b []byte) {
		for {
			n := min(size, len(b))
			list = append(list, api.Pdv{Context: m.Context, Command: isCommand, Last: n == len(b), Data: b[:n:n]})
			if b = b[n:]; len(b) == 0 {
				return
			}
		}
	}
	part(true, command)
	if m.Cmd.HasData {
		part(false, m.Data)
	}
	return list
}

// dataPdu is a P-DATA-TF with these fragments.
func dataPdu(values ...api.Pdv) []byte {
	return laid(api.Pdu{Kind: api.PduData, Values: values})
}

// said is a message as it comes: a P-DATA-TF a fragment.
func said(messages ...api.Message) []byte {
	var b []byte
	for _, m := range messages {
		for _, v := range fragments(m, 16000) {
			b = append(b, dataPdu(v)...)
		}
	}
	return b
}

// answers are messages as they go out with such a length: a P-DATA-TF a fragment of an even number of bytes.
func answers(n int, most int, messages ...api.Message) []api.Out {
	var outs []api.Out
	for _, m := range messages {
		for _, v := range fragments(m, (most-6)/2*2) {
			outs = append(outs, sends(n, dataPdu(v))...)
		}
	}
	return outs
}

// heard are the messages that a line's Outs are.
func heard(t *testing.T, n int, outs []api.Out) []api.Message {
	t.Helper()
	j := dimse.NewJoiner(agreed(), false)
	var list []api.Message
	for _, o := range outs {
		p, err := pdu.Decode(o.Data)
		if o.Kind != api.OSend || o.Line != n || err != nil || p.Kind != api.PduData {
			t.Fatalf("no P-DATA-TF of line %d: %s, %v", n, shown(o), err)
		}
		for _, v := range p.Values {
			m, whole, err := j.Take(v)
			if err != nil {
				t.Fatalf("no message: %v", err)
			}
			if whole {
				list = append(list, m)
			}
		}
	}
	if j.Held() != 0 {
		t.Fatal("a message is not whole")
	}
	return list
}

func statuses(messages []api.Message) []uint16 {
	var list []uint16
	for _, m := range messages {
		list = append(list, m.Cmd.Status)
	}
	return list
}

// el is an element of a tag that the dictionary knows; a sequence has no items.
func el(tag api.Tag, value string) api.Node {
	return api.Node{Tag: tag, VR: dict.Default(tag), Value: value}
}

// list puts nodes and lists of them one behind the other.
func list(parts ...any) []api.Node {
	var all []api.Node
	for _, p := range parts {
		switch x := p.(type) {
		case api.Node:
			all = append(all, x)
		case []api.Node:
			all = append(all, x...)
		}
	}
	return all
}

// holding is an item with these elements and what is in them.
func holding(parts ...any) []api.Node {
	inside := list(parts...)
	count := 0
	for i := 0; i < len(inside); i = dict.Next(inside, i) {
		count++
	}
	return list(api.Node{Tag: api.TagItem, VR: api.VRItem, N: count}, inside)
}

// seq is a sequence with these items.
func seq(tag api.Tag, items ...[]api.Node) []api.Node {
	return list(api.Node{Tag: tag, VR: api.VRSQ, N: len(items)}, slices.Concat(items...))
}

// performed is the data set D of chapter 14, about a step, with a patient's name and a comment.
func performed(id, name, comment string) []api.Node {
	about := holding(el(api.TagAccession, ""), el(api.TagRefStudies, ""), el(api.TagStudyUID, "1.2"), el(api.TagProcedureDesc, ""),
		el(api.TagStepDesc, ""), el(api.TagProtocolCodes, ""), el(api.TagStepID, id), el(api.TagProcedureID, ""))
	return list(el(api.TagModality, "CT"), el(api.TagProcedureCodes, ""), el(api.TagRefPatients, ""), el(api.TagPatientName, name),
		el(api.TagPatientID, "7"), el(api.TagBirthDate, ""), el(api.TagSex, ""), el(api.TagStudyID, ""), el(api.TagDoneStationAE, "CT1"),
		el(api.TagDoneStation, ""), el(api.TagDoneLocation, ""), el(api.TagDoneDate, "20260701"), el(api.TagDoneTime, "0830"),
		el(api.TagEndDate, ""), el(api.TagEndTime, ""), el(api.TagDoneStatus, "IN PROGRESS"), el(api.TagDoneID, "P1"),
		el(api.TagDoneDesc, ""), el(api.TagDoneType, ""), el(api.TagDoneProtocols, ""), seq(api.TagStepAttributes, about),
		el(api.TagComments, comment), el(api.TagSeries, ""))
}

func plain(id string) []api.Node { return performed(id, "X^Y", "") }

// finish is what a Set says that ends a step.
func finish(word string) []api.Node {
	series := holding(el(api.TagRetrieveAE, ""), el(api.TagSeriesDesc, ""), el(api.TagPerformerName, ""), el(api.TagOperators, ""),
		el(api.TagRefImages, ""), el(api.TagProtocol, "Head"), el(api.TagSeriesUID, "1.2.3"))
	return list(el(api.TagEndDate, "20260701"), el(api.TagEndTime, "0915"), el(api.TagDoneStatus, word), seq(api.TagSeries, series))
}

// row is a row of the schedule.
func row(id string) api.Step {
	return api.Step{ID: id, Procedure: "P", Study: "1.2", PatientName: "Doe^Jane", PatientID: "7", Modality: "CT", Station: "CT1", Date: "20260701", Time: "083000", Status: api.StepScheduled}
}

func named(id, name string) api.Step {
	s := row(id)
	s.PatientName = name
	return s
}

// scheduled is a state with these steps.
func scheduled(ids ...string) api.State {
	var st api.State
	for _, id := range ids {
		st.Steps = append(st.Steps, row(id))
	}
	return st
}

// many is a state with so many steps.
func many(n int) api.State {
	var ids []string
	for i := range n {
		ids = append(ids, fmt.Sprintf("S%03d", i))
	}
	return scheduled(ids...)
}

// ask is a request of the context's own class.
func ask(context uint8, field, id uint16) api.Message {
	return api.Message{Context: context, Cmd: api.Cmd{Field: field, Class: contextOf(context).Class, Id: id}}
}

// askWith is a request with a data set.
func askWith(context uint8, field, id uint16, uid string, nodes []api.Node) api.Message {
	m := ask(context, field, id)
	m.Cmd.Instance, m.Cmd.HasData = uid, true
	b, err := dataset.Encode(nodes, contextOf(context).Syntax)
	if err != nil {
		panic(err)
	}
	m.Data = b
	return m
}

func echo(id uint16) api.Message { return ask(1, api.CEcho, id) }

// wide are keys that all steps match.
func wide() []api.Node {
	return list(el(api.TagPatientName, ""), seq(api.TagSteps, holding(el(api.TagStepID, ""))))
}

func find(id uint16) api.Message { return askWith(3, api.CFind, id, "", wide()) }

func cancel(id uint16) api.Message {
	return api.Message{Context: 3, Cmd: api.Cmd{Field: api.CCancel, To: id}}
}

func create(id uint16, uid string, nodes []api.Node) api.Message {
	return askWith(5, api.NCreate, id, uid, nodes)
}

func set(id uint16, uid string, nodes []api.Node) api.Message {
	return askWith(5, api.NSet, id, uid, nodes)
}

func get(id uint16, uid string, attrs ...api.Tag) api.Message {
	m := ask(7, api.NGet, id)
	m.Cmd.Instance, m.Cmd.Attrs = uid, attrs
	return m
}

// answer is what the document says of an answer's form.
func answer(m api.Message, status uint16, offending ...api.Tag) api.Message {
	a := api.Message{Context: m.Context, Cmd: api.Cmd{Field: m.Cmd.Field + 0x8000, Class: m.Cmd.Class, To: m.Cmd.Id, Status: status, Offending: offending}}
	if m.Cmd.Field >= 0x100 {
		a.Cmd.Instance = m.Cmd.Instance
	}
	return a
}

// withData is an answer with a data set.
func withData(a api.Message, nodes ...any) api.Message {
	b, err := dataset.Encode(list(nodes...), contextOf(a.Context).Syntax)
	if err != nil {
		panic(err)
	}
	a.Cmd.HasData, a.Data = true, b
	return a
}

// match is a pending answer to a query by the keys wide.
func match(m api.Message, id string) api.Message {
	return withData(answer(m, 0xFF00), el(api.TagPatientName, "Doe^Jane"), seq(api.TagSteps, holding(el(api.TagStepID, id))))
}

// ordering is an order message in its frame; a cancellation looks at the steps' IDs alone.
func ordering(control string, verb int, steps ...api.Step) []byte {
	o := api.Order{Control: control, Verb: verb, Steps: steps}
	if verb == api.OrderCancel {
		for _, s := range steps {
			o.IDs = append(o.IDs, s.ID)
		}
		o.Steps = nil
	}
	text, err := feed.Print(o)
	if err != nil {
		panic(err)
	}
	return feed.Frame(text)
}

func acks(control, code, words string) api.Out {
	b, err := feed.Ack(control, code, words)
	if err != nil {
		panic(err)
	}
	return api.Out{Kind: api.OAck, Data: b}
}

// ordered is a state behind orders for these steps, the last of which had this control ID.
func ordered(control string, ids ...string) api.State {
	st := scheduled(ids...)
	st.Control = control
	return st
}

// journalOn is the journal on a server's disk: its generation, and how many records stand behind its base.
func journalOn(t *testing.T, b *broker.Broker) api.JournalScan {
	t.Helper()
	img := b.Disk()
	img.Left = -1
	d, err := disk.Load(img)
	if err != nil {
		t.Fatal(err)
	}
	var current api.JournalScan
	for name, size := range d.List() {
		bytes, _ := d.Read(name, 0, size)
		if s, err := journal.Scan(bytes); err == nil && s.Gen > current.Gen {
			current = s
		}
	}
	return current
}

// records: a journal has this generation and so many records.
func records(t *testing.T, what string, b *broker.Broker, gen uint64, count int) {
	t.Helper()
	if j := journalOn(t, b); j.Gen != gen || len(j.Records) != count {
		t.Fatalf("%s: generation %d with %d records, not %d with %d", what, j.Gen, len(j.Records), gen, count)
	}
}
