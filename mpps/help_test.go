package mpps_test

import (
	"fmt"
	"reflect"
	"slices"
	"strings"
	"testing"

	"modality/api"
	"modality/dict"
	"modality/mpps"
	"modality/store"
)

func same(a, b any) bool { return reflect.DeepEqual(a, b) }

// shown tells the beginning of anything.
func shown(x any) string { return fmt.Sprintf("%.1500s", fmt.Sprintf("%+v", x)) }

// el is an element of a tag that the dictionary knows; a sequence has no items.
func el(tag api.Tag, value string) api.Node {
	return api.Node{Tag: tag, VR: dict.Default(tag), Value: value}
}

func item(n int) api.Node { return api.Node{Tag: api.TagItem, VR: api.VRItem, N: n} }

// list puts nodes and lists of them one behind the other.
func list(parts ...any) []api.Node {
	var all []api.Node
	for _, p := range parts {
		switch x := p.(type) {
		case api.Node:
			all = append(all, x)
		case []api.Node:
			all = append(all, x...)
		}
	}
	return all
}

// holding is an item with these elements and what is in them.
func holding(parts ...any) []api.Node {
	inside := list(parts...)
	count := 0
	for i := 0; i < len(inside); i = dict.Next(inside, i) {
		count++
	}
	return list(item(count), inside)
}

// seq is a sequence with these items.
func seq(tag api.Tag, items ...[]api.Node) []api.Node {
	return list(api.Node{Tag: tag, VR: api.VRSQ, N: len(items)}, slices.Concat(items...))
}

func code(value string) []api.Node {
	return holding(el(api.TagCodeValue, value), el(api.TagCodeScheme, "DCM"))
}

func reference(class, instance string) []api.Node {
	return holding(el(api.TagRefClass, class), el(api.TagRefInstance, instance))
}

// about is an item of (0040,0270) that names a scheduled step.
func about(id string) []api.Node {
	return holding(el(api.TagAccession, ""), el(api.TagRefStudies, ""), el(api.TagStudyUID, "1.2"), el(api.TagProcedureDesc, ""),
		el(api.TagStepDesc, ""), el(api.TagProtocolCodes, ""), el(api.TagStepID, id), el(api.TagProcedureID, ""))
}

// series is an item of (0040,0340).
func series(uid string) []api.Node {
	return holding(el(api.TagRetrieveAE, ""), el(api.TagSeriesDesc, ""), el(api.TagPerformerName, ""), el(api.TagOperators, ""),
		el(api.TagRefImages, ""), el(api.TagProtocol, "Head"), el(api.TagSeriesUID, uid))
}

// plain is the data set D of the document's examples, about these steps.
func plain(ids ...string) []api.Node {
	var items [][]api.Node
	for _, id := range ids {
		items = append(items, about(id))
	}
	return list(el(api.TagModality, "CT"), el(api.TagProcedureCodes, ""), el(api.TagRefPatients, ""), el(api.TagPatientName, "X^Y"),
		el(api.TagPatientID, "7"), el(api.TagBirthDate, ""), el(api.TagSex, ""), el(api.TagStudyID, ""), el(api.TagDoneStationAE, "CT1"),
		el(api.TagDoneStation, ""), el(api.TagDoneLocation, ""), el(api.TagDoneDate, "20260701"), el(api.TagDoneTime, "0830"),
		el(api.TagEndDate, ""), el(api.TagEndTime, ""), el(api.TagDoneStatus, "IN PROGRESS"), el(api.TagDoneID, "P1"),
		el(api.TagDoneDesc, ""), el(api.TagDoneType, ""), el(api.TagDoneProtocols, ""), seq(api.TagStepAttributes, items...), el(api.TagSeries, ""))
}

// rich has all that a table has, on every level, with something in each.
func rich() []api.Node {
	meant := holding(el(api.TagCodeValue, "T-1"), el(api.TagCodeScheme, "SRT"), el(api.TagCodeMeaning, "Schädel"))
	step := holding(el(api.TagAccession, "AC1"), seq(api.TagRefStudies, reference("1.2.3", "1.2.4")), el(api.TagStudyUID, "1.2"), el(api.TagProcedureDesc, "Kopf"),
		el(api.TagStepDesc, "Scan"), seq(api.TagProtocolCodes, meant, code("T-2")), el(api.TagStepID, "A1"), el(api.TagProcedureID, "RP1"))
	run := holding(el(api.TagRetrieveAE, `PACS1\PACS2`), el(api.TagSeriesDesc, "S"), el(api.TagPerformerName, "Doe^Jane"), el(api.TagOperators, `A^B\C^D`),
		seq(api.TagRefImages, reference("1.5", "1.6"), reference("1.5", "1.7")), el(api.TagProtocol, "Head"), el(api.TagSeriesUID, "1.2.3"))
	return list(el(api.TagModality, "CT"), seq(api.TagProcedureCodes, meant), seq(api.TagRefPatients, reference("1.8", "1.9")), el(api.TagPatientName, "Müller^Jo"),
		el(api.TagPatientID, "7"), el(api.TagIssuer, "H"), el(api.TagBirthDate, "19700101"), el(api.TagSex, "F"), el(api.TagStudyID, "S1"), el(api.TagDoneStationAE, "CT1"),
		el(api.TagDoneStation, "Room"), el(api.TagDoneLocation, "W1"), el(api.TagDoneDate, "20260701"), el(api.TagDoneTime, "083000.5"),
		el(api.TagEndDate, "20260701"), el(api.TagEndTime, "09"), el(api.TagDoneStatus, "IN PROGRESS"), el(api.TagDoneID, "P1"),
		el(api.TagDoneDesc, "D"), el(api.TagDoneType, "T"), seq(api.TagDoneProtocols, code("P")), seq(api.TagStepAttributes, step, about("A2")),
		el(api.TagComments, "none\r\nat all"), seq(api.TagStopReason, code("110500")), seq(api.TagSeries, run, series("1.2.5")))
}

// finish is what a Set says that ends the document's step.
func finish(word string) []api.Node {
	return list(el(api.TagEndDate, "20260701"), el(api.TagEndTime, "0915"), el(api.TagDoneStatus, word), seq(api.TagSeries, series("1.2.3")))
}

// with has other values in all elements of that tag.
func with(nodes []api.Node, tag api.Tag, value string) []api.Node {
	nodes = slices.Clone(nodes)
	for i := range nodes {
		if nodes[i].Tag == tag {
			nodes[i].Value = value
		}
	}
	return nodes
}

// place tells where on the top level a tag stands, or would stand.
func place(nodes []api.Node, tag api.Tag) (from, to int) {
	for from < len(nodes) && nodes[from].Tag < tag {
		from = dict.Next(nodes, from)
	}
	if from < len(nodes) && nodes[from].Tag == tag {
		return from, dict.Next(nodes, from)
	}
	return from, from
}

// put has on its top level these elements (one, and what is in it), new or in the place of others.
func put(nodes []api.Node, part ...api.Node) []api.Node {
	from, to := place(nodes, part[0].Tag)
	return slices.Concat(nodes[:from], part, nodes[to:])
}

// without has no elements of these tags on its top level.
func without(nodes []api.Node, tags ...api.Tag) []api.Node {
	nodes = slices.Clone(nodes)
	for _, tag := range tags {
		from, to := place(nodes, tag)
		nodes = slices.Delete(nodes, from, to)
	}
	return nodes
}

func step(id string, status int) api.Step {
	return api.Step{ID: id, Procedure: "P", Study: "1.2", PatientName: "X^Y", PatientID: "7", Modality: "CT", Station: "CT1", Date: "20260701", Time: "083000", Status: status}
}

func perf(uid string, state int, data []api.Node) api.Perf {
	return api.Perf{UID: uid, State: state, Data: data}
}

// scheduled is the state of the document's examples.
func scheduled(perfs ...api.Perf) api.State {
	return api.State{Control: "M1", Steps: []api.Step{step("A1", api.StepScheduled)}, Perfs: perfs}
}

// started is a state in which a performed step 1.9 has that data set.
func started(data []api.Node) api.State {
	st := scheduled(perf("1.9", api.PerfProgress, data))
	st.Steps[0].Status = api.StepStarted
	return st
}

// crowd gives so many performed steps, rising by UID.
func crowd(n int) []api.Perf {
	var perfs []api.Perf
	data := plain("A1")
	for i := range n {
		perfs = append(perfs, perf(fmt.Sprintf("2.%d", 1000+i), api.PerfProgress, data))
	}
	return perfs
}

func sound(t *testing.T, st api.State) {
	t.Helper()
	if err := store.Sound(st); err != nil {
		t.Fatalf("the test's state is none: %v", err)
	}
}

func refused(status uint16, tags ...api.Tag) api.Verdict {
	return api.Verdict{Status: status, Offending: tags}
}

var final = api.Verdict{Status: 0x0110, ErrorId: 0xA710}

func wantVerdict(t *testing.T, what string, got, want api.Verdict) {
	t.Helper()
	if !same(got, want) {
		t.Errorf("%s: %04x %08x, not %04x %08x\n%s\n%s", what, got.Status, got.Offending, want.Status, want.Offending, shown(got), shown(want))
	}
}

func wantCreate(t *testing.T, what string, ds []api.Node, want api.Verdict) {
	t.Helper()
	v := mpps.Create(scheduled(), "1.9", ds)
	wantVerdict(t, "P14.2: "+what, v, want)
	apply(t, scheduled(), v)
}

func wantSet(t *testing.T, what string, st api.State, ds []api.Node, want api.Verdict) {
	t.Helper()
	v := mpps.Set(st, "1.9", ds)
	wantVerdict(t, "P14.3: "+what, v, want)
	apply(t, st, v)
}

// makes is the verdict by which the performed step 1.9 comes to this.
func makes(state int, data []api.Node, moves ...api.Move) api.Verdict {
	return api.Verdict{Change: api.Mutation{Kind: api.MPerf, Perf: perf("1.9", state, data), Moves: moves}}
}

func move(id string, status int) api.Move { return api.Move{ID: id, Status: status} }

// apply gives the state behind a verdict's change.
func apply(t *testing.T, st api.State, v api.Verdict) api.State {
	t.Helper()
	if v.Change.Kind == 0 {
		return st
	}
	behind, err := store.Apply(st, v.Change)
	if err != nil {
		t.Fatalf("P14.5: %s: %v", shown(v.Change), err)
	}
	return behind
}

func long(text string, n int) string { return strings.Repeat(text, n) }
