package mpps_test

import (
	"fmt"
	"slices"
	"testing"

	"modality/api"
	"modality/mpps"
)

// TestCreateExamples: the document's first example.
func TestCreateExamples(t *testing.T) {
	d := plain("A1")
	wantCreate(t, "D", d, makes(api.PerfProgress, d, move("A1", api.StepStarted)))
	wantCreate(t, "two are missing", without(d, api.TagModality, api.TagSeries), refused(0x0120, api.TagModality, api.TagSeries))
	wantCreate(t, "no ID", with(d, api.TagDoneID, ""), refused(0x0121, api.TagDoneID))
	wantCreate(t, "completed", with(d, api.TagDoneStatus, "COMPLETED"), refused(0x0106, api.TagDoneStatus))
	wantCreate(t, "discontinued", with(d, api.TagDoneStatus, "DISCONTINUED"), refused(0x0106, api.TagDoneStatus))
	wantCreate(t, "a study's UID on top", put(d, el(api.TagStudyUID, "1.2")), refused(0x0105, api.TagStudyUID))
	wantCreate(t, "no day", with(d, api.TagDoneDate, "20260230"), refused(0x0106, api.TagDoneDate))
	wantCreate(t, "all that there may be", rich(), makes(api.PerfProgress, rich(), move("A1", api.StepStarted)))
}

// TestCreateUID: which UIDs may be, and which is there already.
func TestCreateUID(t *testing.T) {
	for uid, status := range map[string]uint16{
		"": 0x0117, "1": 0, "0": 0, "1.0.2": 0, "01": 0x0117, "1.": 0x0117, ".1": 0x0117, "1..2": 0x0117, "1.02": 0x0117, "a": 0x0117, "1 ": 0x0117,
		"1.2\x00": 0x0117, `1\2`: 0x0117, long("1", 64): 0, long("1", 65): 0x0117, "1.9": 0, "1.8": 0x0111, "1.80": 0, "1.8.0": 0,
	} {
		st := scheduled(perf("1.8", api.PerfCompleted, with(plain("A1"), api.TagDoneStatus, "COMPLETED")))
		sound(t, st)
		v := mpps.Create(st, uid, plain("A1"))
		if v.Status != status || v.Offending != nil || v.ErrorId != 0 || v.Change.Perf.UID != uid && status == 0 {
			t.Errorf("P14.2: the UID %q: %s, not %04x", uid, shown(v), status)
		}
	}
}

// flaw is something wrong with a request, and what is told if it is the first.
type flaw struct {
	name string
	make func(r *request)
	want api.Verdict
}

type request struct {
	st  api.State
	uid string
	ds  []api.Node
}

// eachSet calls for each set of the flaws of a list, with the first that is in it (-1: none).
func eachSet(flaws []flaw, do func(name string, in []flaw, first int)) {
	for set := range 1 << len(flaws) {
		var in []flaw
		name, first := "", -1
		for i, f := range flaws {
			if set>>i&1 == 0 {
				continue
			}
			if first < 0 {
				first = i
			}
			in, name = append(in, f), name+", "+f.name
		}
		do(name, in, first)
	}
}

// TestCreateOrder: of several reasons the first holds, whatever else is wrong.
func TestCreateOrder(t *testing.T) {
	flaws := []flaw{
		{"not formed", func(r *request) { r.ds = append(r.ds, el(api.TagModality, "CT")) }, refused(0x0110)},
		{"no UID", func(r *request) { r.uid = "" }, refused(0x0117)},
		{"duplicate", func(r *request) { r.st.Perfs[0].UID = r.uid }, refused(0x0111)},
		{"strange", func(r *request) { r.ds = put(r.ds, el(api.TagReferrer, "X")) }, refused(0x0105, api.TagReferrer)},
		{"value", func(r *request) { r.ds = put(r.ds, el(api.TagSex, "X")) }, refused(0x0106, api.TagSex)},
		{"missing", func(r *request) { r.ds = without(r.ds, api.TagPatientID) }, refused(0x0120, api.TagPatientID)},
		{"empty", func(r *request) { r.ds = put(r.ds, el(api.TagModality, "")) }, refused(0x0121, api.TagModality)},
		{"completed", func(r *request) { r.ds = put(r.ds, el(api.TagDoneStatus, "COMPLETED")) }, refused(0x0106, api.TagDoneStatus)},
		{"full", func(r *request) { r.st.Perfs = append(r.st.Perfs, crowd(api.MaxPerfs-1)...) }, refused(0x0213)},
		{"great", func(r *request) { r.ds = padded(r.ds, api.MaxRow+2) }, refused(0x0213)},
	}
	eachSet(flaws, func(name string, in []flaw, first int) {
		r := request{scheduled(perf("1.1", api.PerfProgress, plain("A1"))), "1.9", plain("A1")}
		// The last flaws first: a data set that is not formed can't be mended further.
		for _, f := range slices.Backward(in) {
			f.make(&r)
		}
		want := makes(api.PerfProgress, plain("A1"), move("A1", api.StepStarted))
		if first >= 0 {
			want = flaws[first].want
		}
		wantVerdict(t, "P14.2"+name, mpps.Create(r.st, r.uid, r.ds), want)
	})
}

// padded is a data set whose comment and reasons make it so many bytes long in Implicit.
func padded(ds []api.Node, size int) []api.Node {
	ds = put(ds, el(api.TagComments, ""))
	reason := holding(el(api.TagCodeValue, "12"), el(api.TagCodeScheme, "34"), el(api.TagCodeMeaning, long("m", 64)))
	ds = put(ds, seq(api.TagStopReason, slices.Repeat([][]api.Node{reason}, (size-modelSize(ds)-100)/modelSize(reason))...)...)
	return with(ds, api.TagComments, long("c", size-modelSize(ds)))
}

// TestCreateLimits: a row's bytes, and how many rows there are.
func TestCreateLimits(t *testing.T) {
	for size := api.MaxRow - 6; size <= api.MaxRow+6; size += 2 {
		ds := padded(plain("A1"), size)
		if got := modelSize(ds); got != size {
			t.Fatal(got)
		}
		want := refused(0x0213)
		if size <= api.MaxRow {
			want = makes(api.PerfProgress, ds, move("A1", api.StepStarted))
		}
		wantCreate(t, fmt.Sprint(size, " bytes"), ds, want)
	}
	for _, n := range []int{api.MaxPerfs - 1, api.MaxPerfs} {
		st := scheduled(crowd(n)...)
		sound(t, st)
		if v := mpps.Create(st, "1.9", plain("A1")); (v.Status == 0) != (n < api.MaxPerfs) || v.Status != 0 && !same(v, refused(0x0213)) {
			t.Errorf("P14.2: %d performed steps: %s", n, shown(v))
		}
	}
	// As many nodes as a data set may have, and nearly as many with long values.
	many := plain("A1")
	for _, tag := range []api.Tag{api.TagComments, api.TagIssuer} {
		if (api.MaxNodes-1-len(many))%3 != 0 {
			many = put(many, el(tag, ""))
		}
	}
	many = put(many, seq(api.TagStopReason, slices.Repeat([][]api.Node{code("1")}, (api.MaxNodes-1-len(many))/3)...)...)
	if len(many) != api.MaxNodes {
		t.Fatal(len(many))
	}
	wantCreate(t, "4096 nodes", many, refused(0x0213))
	huge := put(plain("A1"), seq(api.TagStopReason, slices.Repeat([][]api.Node{holding(el(api.TagCodeValue, "1"), el(api.TagCodeScheme, "2"), el(api.TagCodeMeaning, long("山", 64)))}, 1000)...)...)
	wantCreate(t, "4000 nodes", huge, refused(0x0213))
}

// TestCreateMoves: the scheduled ones of those that an item names, rising, each once.
func TestCreateMoves(t *testing.T) {
	st := api.State{Control: "M"}
	for i, id := range []string{"A", "A1", "B", "C", "D", "E", "F"} {
		st.Steps = append(st.Steps, step(id, []int{1, 1, 2, 3, 4, 1, 1}[i]))
	}
	sound(t, st)
	ds := plain("F", "D", "Z", "", "C", "A", "B", "F", "a", "A", "E E")
	wantVerdict(t, "P14.2: moves", mpps.Create(st, "1.9", ds), makes(api.PerfProgress, ds, move("A", 2), move("F", 2)))
	ds = plain("Z", "")
	wantVerdict(t, "P14.2: no moves", mpps.Create(st, "1.9", ds), makes(api.PerfProgress, ds))
	var steps []api.Step
	var ids []string
	var all []api.Move
	for i := range api.MaxSteps {
		id := fmt.Sprintf("S%03d", i)
		steps, ids, all = append(steps, step(id, 1)), append(ids, id), append(all, move(id, 2))
	}
	slices.Reverse(ids)
	st = api.State{Steps: steps}
	ds = plain(ids...)
	wantVerdict(t, "P14.2: all steps", mpps.Create(st, "1.9", ds), makes(api.PerfProgress, ds, all...))
	apply(t, st, mpps.Create(st, "1.9", ds))
}
