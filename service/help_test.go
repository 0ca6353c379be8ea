package service_test

import (
	"fmt"
	"reflect"
	"slices"
	"strings"
	"testing"

	"modality/api"
	"modality/dataset"
	"modality/dict"
	"modality/disk"
	"modality/journal"
	"modality/service"
	"modality/store"
)

func same(a, b any) bool { return reflect.DeepEqual(a, b) }

// shown tells the beginning of anything.
func shown(x any) string { return fmt.Sprintf("%.1500s", fmt.Sprintf("%+v", x)) }

// agreed are the contexts of the tests: every class, in both syntaxes and in none.
func agreed() []api.Context {
	return []api.Context{
		{Id: 1, Class: api.UIDVerify, Syntax: api.Implicit},
		{Id: 3, Class: api.UIDWorklist, Syntax: api.Implicit},
		{Id: 5, Class: api.UIDPerform, Syntax: api.Explicit},
		{Id: 7, Class: api.UIDRetrieve, Syntax: api.Implicit},
		{Id: 9, Class: api.UIDWorklist, Syntax: api.Explicit},
		{Id: 11, Class: api.UIDPerform, Syntax: api.Implicit},
		{Id: 13, Class: api.UIDRetrieve, Syntax: api.Explicit},
		{Id: 15, Class: "1.2.3", Syntax: api.Implicit},
		{Id: 17, Class: api.UIDWorklist},
		{Id: 19, Class: api.UIDPerform, Syntax: 9},
		{Id: 21, Class: api.UIDRetrieve, Syntax: -1},
		{Id: 23, Class: api.UIDVerify},
	}
}

func contextOf(id uint8) api.Context {
	for _, c := range agreed() {
		if c.Id == id {
			return c
		}
	}
	return api.Context{}
}

// el is an element of a tag that the dictionary knows; a sequence has no items.
func el(tag api.Tag, value string) api.Node {
	return api.Node{Tag: tag, VR: dict.Default(tag), Value: value}
}

// list puts nodes and lists of them one behind the other.
func list(parts ...any) []api.Node {
	var all []api.Node
	for _, p := range parts {
		switch x := p.(type) {
		case api.Node:
			all = append(all, x)
		case []api.Node:
			all = append(all, x...)
		}
	}
	return all
}

// holding is an item with these elements and what is in them.
func holding(parts ...any) []api.Node {
	inside := list(parts...)
	count := 0
	for i := 0; i < len(inside); i = dict.Next(inside, i) {
		count++
	}
	return list(api.Node{Tag: api.TagItem, VR: api.VRItem, N: count}, inside)
}

// seq is a sequence with these items.
func seq(tag api.Tag, items ...[]api.Node) []api.Node {
	return list(api.Node{Tag: tag, VR: api.VRSQ, N: len(items)}, slices.Concat(items...))
}

// bare are so many keys that the dictionary does not know, of eight bytes each in Implicit.
func bare(n int) []api.Node {
	var keys []api.Node
	for i := range n {
		tag := api.Tag(0x00510000 + 0x1000 + i)
		keys = append(keys, api.Node{Tag: tag, VR: dict.Default(tag)})
	}
	return keys
}

// about is an item of (0040,0270) that names a scheduled step.
func about(id string) []api.Node {
	return holding(el(api.TagAccession, ""), el(api.TagRefStudies, ""), el(api.TagStudyUID, "1.2"), el(api.TagProcedureDesc, ""),
		el(api.TagStepDesc, ""), el(api.TagProtocolCodes, ""), el(api.TagStepID, id), el(api.TagProcedureID, ""))
}

// begun is the data set D of chapter 14, about a step, with a patient's name and a comment.
func begun(id, name, comment string) []api.Node {
	return list(el(api.TagModality, "CT"), el(api.TagProcedureCodes, ""), el(api.TagRefPatients, ""), el(api.TagPatientName, name),
		el(api.TagPatientID, "7"), el(api.TagBirthDate, ""), el(api.TagSex, ""), el(api.TagStudyID, ""), el(api.TagDoneStationAE, "CT1"),
		el(api.TagDoneStation, ""), el(api.TagDoneLocation, ""), el(api.TagDoneDate, "20260701"), el(api.TagDoneTime, "0830"),
		el(api.TagEndDate, ""), el(api.TagEndTime, ""), el(api.TagDoneStatus, "IN PROGRESS"), el(api.TagDoneID, "P1"),
		el(api.TagDoneDesc, ""), el(api.TagDoneType, ""), el(api.TagDoneProtocols, ""), seq(api.TagStepAttributes, about(id)),
		el(api.TagComments, comment), el(api.TagSeries, ""))
}

func plain(id string) []api.Node { return begun(id, "X^Y", "") }

// finish is what a Set says that ends a step.
func finish(word string) []api.Node {
	series := holding(el(api.TagRetrieveAE, ""), el(api.TagSeriesDesc, ""), el(api.TagPerformerName, ""), el(api.TagOperators, ""),
		el(api.TagRefImages, ""), el(api.TagProtocol, "Head"), el(api.TagSeriesUID, "1.2.3"))
	return list(el(api.TagEndDate, "20260701"), el(api.TagEndTime, "0915"), el(api.TagDoneStatus, word), seq(api.TagSeries, series))
}

// row is a row of the schedule.
func row(id string, status int) api.Step {
	return api.Step{ID: id, Procedure: "P", Study: "1.2", PatientName: "Doe^Jane", PatientID: "7", Modality: "CT", Station: "CT1", Date: "20260701", Time: "083000", Status: status}
}

func named(id, name string) api.Step {
	s := row(id, api.StepScheduled)
	s.PatientName = name
	return s
}

// scheduled is a state with these steps.
func scheduled(ids ...string) api.State {
	var st api.State
	for _, id := range ids {
		st.Steps = append(st.Steps, row(id, api.StepScheduled))
	}
	return st
}

// many is a state with so many steps.
func many(n int) api.State {
	var ids []string
	for i := range n {
		ids = append(ids, fmt.Sprintf("S%03d", i))
	}
	return scheduled(ids...)
}

// storeIn is a store that has this state, and its disk.
func storeIn(t *testing.T, st api.State) (*store.Store, *disk.Disk) {
	t.Helper()
	mutations, err := store.Base(st)
	if err != nil {
		t.Fatal(err)
	}
	var base [][]byte
	for _, m := range mutations {
		b, err := store.Encode(m)
		if err != nil {
			t.Fatal(err)
		}
		base = append(base, b)
	}
	head, err := journal.Head(1, base)
	if err != nil {
		t.Fatal(err)
	}
	d, err := disk.New(api.DiskConfig{Blocks: api.MaxBlocks, Names: 4})
	if err != nil {
		t.Fatal(err)
	}
	for _, e := range []api.Errno{d.Create("slot.a"), d.Append("slot.a", head), d.Sync("slot.a"), d.SyncDir()} {
		if e != api.OK {
			t.Fatal(e)
		}
	}
	s, err := store.Open(d, 10)
	if err != nil || !same(s.State(), st) {
		t.Fatalf("the test's store: %v", err)
	}
	return s, d
}

// served is a service with the tests' contexts over a store with this state.
func served(t *testing.T, st api.State) (*service.Service, *store.Store, *disk.Disk) {
	t.Helper()
	s, d := storeIn(t, st)
	return service.New(s, agreed()), s, d
}

// ask is a request of the context's own class.
func ask(context uint8, field, id uint16) api.Message {
	return api.Message{Context: context, Cmd: api.Cmd{Field: field, Class: contextOf(context).Class, Id: id}}
}

// asking is a request with a data set.
func asking(context uint8, field, id uint16, uid string, nodes []api.Node) api.Message {
	m := ask(context, field, id)
	m.Cmd.Instance, m.Cmd.HasData = uid, true
	b, err := dataset.Encode(nodes, contextOf(context).Syntax)
	if err != nil {
		panic(err)
	}
	m.Data = b
	return m
}

func echo(id uint16) api.Message { return ask(1, api.CEcho, id) }

// wide are keys that all steps match.
func wide() []api.Node {
	return list(el(api.TagPatientName, ""), seq(api.TagSteps, holding(el(api.TagStepID, ""))))
}

func find(id uint16) api.Message { return asking(3, api.CFind, id, "", wide()) }

func findBy(context uint8, id uint16, parts ...any) api.Message {
	return asking(context, api.CFind, id, "", list(parts...))
}

func cancel(id uint16) api.Message {
	return api.Message{Context: 3, Cmd: api.Cmd{Field: api.CCancel, To: id}}
}

func create(id uint16, uid string, nodes []api.Node) api.Message {
	return asking(5, api.NCreate, id, uid, nodes)
}

func set(id uint16, uid string, nodes []api.Node) api.Message {
	return asking(5, api.NSet, id, uid, nodes)
}

func get(context uint8, id uint16, uid string, attrs ...api.Tag) api.Message {
	m := ask(context, api.NGet, id)
	m.Cmd.Instance, m.Cmd.Attrs = uid, attrs
	return m
}

// answer is what the document says of an answer's form.
func answer(m api.Message, status uint16, offending ...api.Tag) api.Message {
	a := api.Message{Context: m.Context, Cmd: api.Cmd{Field: m.Cmd.Field + 0x8000, Class: m.Cmd.Class, To: m.Cmd.Id, Status: status, Offending: offending}}
	if m.Cmd.Field >= 0x100 {
		a.Cmd.Instance = m.Cmd.Instance
	}
	return a
}

// withData is an answer with a data set.
func withData(a api.Message, nodes ...any) api.Message {
	b, err := dataset.Encode(list(nodes...), contextOf(a.Context).Syntax)
	if err != nil {
		panic(err)
	}
	a.Cmd.HasData, a.Data = true, b
	return a
}

// match is a pending answer to a query by the keys wide.
func match(m api.Message, id, name string) api.Message {
	return withData(answer(m, 0xFF00), el(api.TagPatientName, name), seq(api.TagSteps, holding(el(api.TagStepID, id))))
}

func wants(t *testing.T, what string, got api.Doing, want ...api.Message) {
	t.Helper()
	if !same(got, api.Doing{Send: want}) {
		t.Fatalf("%s: %s, not %s", what, shown(got), shown(want))
	}
}

func aborts(t *testing.T, what string, got api.Doing) {
	t.Helper()
	if !same(got, api.Doing{Abort: true}) {
		t.Fatalf("%s: %s, not an abort alone", what, shown(got))
	}
}

func isOff(t *testing.T, what string, got api.Doing, want ...api.Message) {
	t.Helper()
	if !same(got, api.Doing{Send: want, Off: true}) {
		t.Fatalf("%s: %s, not %s and off", what, shown(got), shown(want))
	}
}

// looks is what P15.10 tells.
type looks struct {
	Queue   int
	Running bool
	Owed    int
	Held    int
}

func lookAt(v *service.Service) looks { return looks{v.Queue(), v.Running(), v.Owed(), v.Held()} }

func tells(t *testing.T, what string, v *service.Service, want looks) {
	t.Helper()
	if got := lookAt(v); got != want {
		t.Fatalf("P15.10: %s: %+v, not %+v", what, got, want)
	}
}

func isIdle(t *testing.T, what string, v *service.Service) {
	t.Helper()
	tells(t, what, v, looks{})
}

func stateIs(t *testing.T, what string, s *store.Store, want api.State) {
	t.Helper()
	if got := s.State(); !same(got, want) {
		t.Fatalf("%s: %s, not %s", what, shown(got), shown(want))
	}
}

// turns is what so many turns put out, one behind the other.
func turns(v *service.Service, n int) []api.Message {
	var all []api.Message
	for range n {
		all = append(all, v.Turn().Send...)
	}
	return all
}

func statuses(messages []api.Message) []uint16 {
	var all []uint16
	for _, m := range messages {
		all = append(all, m.Cmd.Status)
	}
	return all
}

// sizeIn is the size of a data set in one form.
func sizeIn(nodes []api.Node) int {
	n, err := dataset.Size(nodes, api.Implicit)
	if err != nil {
		panic(err)
	}
	return n
}

func long(text string, n int) string { return strings.Repeat(text, n) }

// newOver is one more service over a store.
func newOver(s *store.Store) *service.Service { return service.New(s, agreed()) }
