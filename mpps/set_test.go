package mpps_test

import (
	"fmt"
	"slices"
	"testing"

	"modality/api"
	"modality/mpps"
)

// TestSetExamples: the document's second and third example.
func TestSetExamples(t *testing.T) {
	st := started(plain("A1"))
	sound(t, st)
	wantSet(t, "completed alone", st, list(el(api.TagDoneStatus, "COMPLETED")), refused(0x0121, api.TagEndDate, api.TagEndTime, api.TagSeries))
	wantSet(t, "discontinued alone", st, list(el(api.TagDoneStatus, "DISCONTINUED")), refused(0x0121, api.TagEndDate, api.TagEndTime, api.TagSeries))
	for state, word := range map[int]string{api.PerfCompleted: "COMPLETED", api.PerfDiscontinued: "DISCONTINUED"} {
		done := makes(state, modelMerged(plain("A1"), finish(word)), move("A1", state+1))
		wantSet(t, word, st, finish(word), done)
		ended := apply(t, st, done)
		for _, ds := range [][]api.Node{finish(word), finish("IN PROGRESS"), nil, list(el(api.TagComments, "x")), list(el(api.TagPatientID, "8")), list(el(api.TagSex, "x"))} {
			wantSet(t, "anything behind "+word, ended, ds, final)
		}
		wantSet(t, "no data set behind "+word, ended, list(item(0)), refused(0x0110))
	}
	wantSet(t, "the patient", st, list(el(api.TagPatientID, "8")), refused(0x0105, api.TagPatientID))
	wantVerdict(t, "P14.3: another UID", mpps.Set(st, "1.8", finish("COMPLETED")), refused(0x0112))
	wantVerdict(t, "P14.3: no UID", mpps.Set(st, "", nil), refused(0x0112))
	wantSet(t, "nothing", st, nil, api.Verdict{})
	wantSet(t, "nothing", st, []api.Node{}, api.Verdict{})
}

// TestSetOrder: of several reasons the first holds, whatever else is wrong.
func TestSetOrder(t *testing.T) {
	said := finish("COMPLETED")
	flaws := []flaw{
		{"not formed", func(r *request) { r.ds = append(r.ds, el(api.TagModality, "CT")) }, refused(0x0110)},
		{"no such one", func(r *request) { r.st.Perfs[0].UID = "1.1" }, refused(0x0112)},
		{"ended", func(r *request) {
			r.st.Perfs[0].State, r.st.Perfs[0].Data = api.PerfDiscontinued, put(r.st.Perfs[0].Data, el(api.TagDoneStatus, "DISCONTINUED"))
		}, final},
		{"strange", func(r *request) { r.ds = put(r.ds, el(api.TagIssuer, "X")) }, refused(0x0105, api.TagIssuer)},
		{"value", func(r *request) { r.ds = put(r.ds, el(api.TagDoneDesc, long("d", 65))) }, refused(0x0106, api.TagDoneDesc)},
		{"missing in an item", func(r *request) {
			r.ds = put(r.ds, seq(api.TagDoneProtocols, holding(el(api.TagCodeValue, "1")))...)
		}, refused(0x0120, api.TagCodeScheme)},
		{"empty in an item", func(r *request) { r.ds = put(r.ds, seq(api.TagProcedureCodes, code(""))...) }, refused(0x0121, api.TagCodeValue)},
		{"missing at the end", func(r *request) {
			r.ds, r.st.Perfs[0].Data = without(r.ds, api.TagEndDate), without(r.st.Perfs[0].Data, api.TagEndDate)
		}, refused(0x0120, api.TagEndDate)},
		{"empty at the end", func(r *request) { r.ds = put(r.ds, el(api.TagEndTime, "")) }, refused(0x0121, api.TagEndTime)},
		{"great", func(r *request) { r.ds = padded(r.ds, api.MaxRow+2) }, refused(0x0213)},
	}
	eachSet(flaws, func(name string, in []flaw, first int) {
		r := request{started(plain("A1")), "1.9", said}
		for _, f := range slices.Backward(in) {
			f.make(&r)
		}
		if first != 1 {
			sound(t, r.st)
		}
		want := makes(api.PerfCompleted, modelMerged(plain("A1"), said), move("A1", api.StepCompleted))
		if first >= 0 {
			want = flaws[first].want
		}
		wantVerdict(t, "P14.3"+name, mpps.Set(r.st, r.uid, r.ds), want)
	})
}

// TestSetStatus: an empty status comes ahead of the limit, and behind all else; it is never a question of the end.
func TestSetStatus(t *testing.T) {
	none := el(api.TagDoneStatus, "")
	st := started(plain("A1"))
	wantSet(t, "no status", st, list(none), refused(0x0121, api.TagDoneStatus))
	wantSet(t, "no status, too great", st, put(padded(nil, api.MaxRow), none), refused(0x0121, api.TagDoneStatus))
	wantSet(t, "no status, nothing of the end", started(without(plain("A1"), api.TagEndDate)), list(none), refused(0x0121, api.TagDoneStatus))
	wantSet(t, "no status, an item's flaw", st, list(none, seq(api.TagStopReason, code(""))), refused(0x0121, api.TagCodeValue))
	wantSet(t, "in progress once more", st, list(el(api.TagDoneStatus, "IN PROGRESS")), makes(api.PerfProgress, plain("A1")))
	wantSet(t, "in progress, and all that the end asks for", st, finish("IN PROGRESS"), makes(api.PerfProgress, modelMerged(plain("A1"), finish("IN PROGRESS"))))
}

// TestSetEnd: what has to be there at the end may be the row's or the request's.
func TestSetEnd(t *testing.T) {
	parts := [][]api.Node{list(el(api.TagEndDate, "20260701")), list(el(api.TagEndTime, "0915")), seq(api.TagSeries, series("1.2.3"))}
	// Each of the three: 0 nowhere, 1 empty in the row, 2 in the row, 3 empty in both, 4 new in the request, 5 in the row and emptied by the request, 6 filled by the request.
	for which := range 7 * 7 * 7 {
		row, ds := without(plain("A1"), api.TagEndDate, api.TagEndTime, api.TagSeries), list(el(api.TagDoneStatus, "DISCONTINUED"))
		var missing, empty []api.Tag
		for i, part := range parts {
			blank := list(el(part[0].Tag, ""))
			kind := which / []int{1, 7, 49}[i] % 7
			if said := [][]api.Node{nil, blank, part, blank, nil, part, blank}[kind]; said != nil {
				row = put(row, said...)
			}
			if said := [][]api.Node{nil, nil, nil, blank, part, blank, part}[kind]; said != nil {
				ds = put(ds, said...)
			}
			switch kind {
			case 0:
				missing = append(missing, part[0].Tag)
			case 1, 3, 5:
				empty = append(empty, part[0].Tag)
			}
		}
		st := started(row)
		sound(t, st)
		want := makes(api.PerfDiscontinued, modelMerged(row, ds), move("A1", api.StepDiscontinued))
		switch {
		case missing != nil:
			want = refused(0x0120, missing...)
		case empty != nil:
			want = refused(0x0121, empty...)
		}
		wantSet(t, fmt.Sprint("the end ", which), st, ds, want)
	}
}

// TestSetMerge: each top element of the request is new, or in the place of the row's, with what is in it.
func TestSetMerge(t *testing.T) {
	row := rich()
	st := started(row)
	sound(t, st)
	for _, ds := range [][]api.Node{
		seq(api.TagSeries, series("1.7")),
		list(el(api.TagSeries, "")),
		seq(api.TagProcedureCodes, code("1"), code("2"), code("3")),
		list(el(api.TagEndDate, "20270101"), el(api.TagEndTime, "10"), el(api.TagComments, "")),
		settable(rich()),
		settable(plain("A1")),
	} {
		want := row
		for _, e := range topOf(ds) {
			want = put(want, felled([]tree{e})...)
		}
		wantSet(t, "merged", st, ds, makes(api.PerfProgress, want))
	}
	bare := list(el(api.TagDoneStatus, "IN PROGRESS"))
	wantSet(t, "a bare row", started(bare), settable(rich()), makes(api.PerfProgress, settable(rich())))
}

// odd is a row that no Create makes, but a state may have: elements that the table does not have, on every level.
func odd() []api.Node {
	return list(
		el(0x00080050, "A1"), el(0x00080064, "WSD"), el(0x00090010, "ours"), api.Node{Tag: 0x00091001, VR: api.VRUN, Value: "\x00\x01"},
		seq(0x00400100, holding(el(api.TagStepID, "A5"))), el(0x00400250, "19990230"), el(0x00400251, "9"), el(0x00400252, "IN PROGRESS"),
		seq(0x00400270, holding(el(api.TagStepID, "A1"), seq(0x00400275, holding(el(api.TagStepID, "A2")))), holding(el(0x00400252, ""), seq(0x00400260, holding(el(api.TagStepID, "A3")))), holding(), holding(el(api.TagStepID, "A4"))),
		seq(0x00400340, holding(el(0x00400250, ""))), api.Node{Tag: 0x00410010, VR: api.VRLO, Value: "x"},
		list(api.Node{Tag: 0x00411001, VR: api.VRSQ, N: 1}, item(1), el(api.TagStepID, "A6")),
	)
}

// TestSetOdd: whatever a sound state's rows have.
func TestSetOdd(t *testing.T) {
	st := api.State{Perfs: []api.Perf{perf("1.9", api.PerfProgress, odd())}}
	for i := range 7 {
		st.Steps = append(st.Steps, step(fmt.Sprint("A", i), api.StepStarted))
	}
	sound(t, st)
	v := makes(api.PerfCompleted, put(odd(), el(api.TagDoneStatus, "COMPLETED")), move("A1", 3), move("A4", 3))
	wantSet(t, "an odd row", st, list(el(api.TagDoneStatus, "COMPLETED")), v)
	apply(t, st, v)
	wantSet(t, "nothing of an odd row", st, nil, api.Verdict{})
	wantSet(t, "an odd row goes on", st, list(el(api.TagComments, "c")), makes(api.PerfProgress, put(odd(), el(api.TagComments, "c"))))
	wantVerdict(t, "P14.4: an odd row", mpps.Get(st, "1.9", nil), api.Verdict{Data: odd()})
	from, to := place(odd(), api.TagStepAttributes)
	wantVerdict(t, "P14.4: some of an odd row", mpps.Get(st, "1.9", []api.Tag{api.TagStepAttributes, api.TagModality}), api.Verdict{Data: odd()[from:to]})
}

// TestSetEndOnTop: at the end nothing is asked for in items, and nothing else on top.
func TestSetEndOnTop(t *testing.T) {
	bare := list(el(api.TagDoneStatus, "IN PROGRESS"))
	wantSet(t, "a bare row", started(bare), finish("COMPLETED"), makes(api.PerfCompleted, finish("COMPLETED")))
	row := list(bare, seq(api.TagStepAttributes, holding(seq(api.TagRefStudies, holding()), seq(api.TagProtocolCodes, holding()))))
	for _, tag := range []api.Tag{api.TagProcedureCodes, api.TagRefPatients, api.TagDoneProtocols, api.TagStopReason} {
		row = put(row, seq(tag, holding())...)
	}
	st := started(row)
	sound(t, st)
	wantSet(t, "items without anything", st, finish("COMPLETED"), makes(api.PerfCompleted, modelMerged(row, finish("COMPLETED"))))
	row = put(put(put(row, el(api.TagEndDate, "20260701")), el(api.TagEndTime, "09")), seq(api.TagSeries, holding())...)
	wantSet(t, "a series without anything", started(row), list(el(api.TagDoneStatus, "COMPLETED")), makes(api.PerfCompleted, put(row, el(api.TagDoneStatus, "COMPLETED"))))
}

// TestSetMoves: the started ones of those that an item of the row names, rising, each once; none while it goes on.
func TestSetMoves(t *testing.T) {
	row := plain("F", "D", "Z", "", "C", "A", "B", "F", "a", "A")
	st := api.State{Perfs: []api.Perf{perf("1.8", api.PerfProgress, plain("E")), perf("1.9", api.PerfProgress, row)}}
	for i, id := range []string{"A", "A1", "B", "C", "D", "E", "F"} {
		st.Steps = append(st.Steps, step(id, []int{2, 2, 1, 3, 4, 2, 2}[i]))
	}
	sound(t, st)
	for state, word := range map[int]string{api.PerfCompleted: "COMPLETED", api.PerfDiscontinued: "DISCONTINUED"} {
		wantSet(t, "moves by "+word, st, finish(word), makes(state, modelMerged(row, finish(word)), move("A", state+1), move("F", state+1)))
	}
	wantSet(t, "no moves", st, finish("IN PROGRESS"), makes(api.PerfProgress, modelMerged(row, finish("IN PROGRESS"))))
	st.Steps = nil
	wantSet(t, "no steps", st, finish("COMPLETED"), makes(api.PerfCompleted, modelMerged(row, finish("COMPLETED"))))
}

// TestSetLimits: the merged data set's bytes and nodes count, not the request's.
func TestSetLimits(t *testing.T) {
	for size := api.MaxRow - 500; size <= api.MaxRow+250; size += 10 {
		row := padded(plain("A1"), 32300)
		st := started(row)
		sound(t, st)
		ds := list(el(api.TagDoneDesc, "dd"), el(api.TagComments, ""))
		ds = with(ds, api.TagComments, long("c", size-modelSize(modelMerged(row, ds))))
		merged := modelMerged(row, ds)
		want := refused(0x0213)
		if size <= api.MaxRow {
			want = makes(api.PerfProgress, merged)
		}
		wantSet(t, fmt.Sprint("merged to ", modelSize(merged), " bytes"), st, ds, want)
	}
	for size := api.MaxRow - 2; size <= api.MaxRow+2; size += 2 {
		ds := settable(padded(plain("A1"), size))
		row := plain("A1")
		want := refused(0x0213)
		if size <= api.MaxRow {
			want = makes(api.PerfProgress, modelMerged(row, ds))
		}
		wantSet(t, fmt.Sprint("a request that makes it ", size), started(row), ds, want)
	}
	// A row that is full may be made small.
	st := started(padded(plain("A1"), api.MaxRow))
	sound(t, st)
	wantSet(t, "smaller", st, list(el(api.TagStopReason, "")), makes(api.PerfProgress, put(st.Perfs[0].Data, el(api.TagStopReason, ""))))
	wantSet(t, "nothing of a full row", st, nil, api.Verdict{})
	// Together they have more nodes than a data set may have.
	items := slices.Repeat([][]api.Node{holding()}, 3900)
	row := list(el(api.TagDoneStatus, "IN PROGRESS"), seq(0x00400275, items...))
	st = started(row)
	sound(t, st)
	ds := seq(api.TagStopReason, slices.Repeat([][]api.Node{code("1")}, 1300)...)
	wantSet(t, "too many nodes", st, ds, refused(0x0213))
}
