package mpps_test

import (
	"slices"
	"testing"

	"modality/api"
	"modality/dict"
	"modality/mpps"
)

// TestGetExamples: the document's fourth example, and its neighbours.
func TestGetExamples(t *testing.T) {
	st := started(plain("A1"))
	get := func(attrs ...api.Tag) api.Verdict { return mpps.Get(st, "1.9", attrs) }
	wantVerdict(t, "P14.4: the status", get(api.TagDoneStatus), api.Verdict{Data: list(el(api.TagDoneStatus, "IN PROGRESS"))})
	wantVerdict(t, "P14.4: a study's UID", get(api.TagStudyUID), refused(0x0105, api.TagStudyUID))
	wantVerdict(t, "P14.4: all", get(), api.Verdict{Data: plain("A1")})
	wantVerdict(t, "P14.4: all", mpps.Get(st, "1.9", []api.Tag{}), api.Verdict{Data: plain("A1")})
	wantVerdict(t, "P14.4: what may be, and is not there", get(api.TagIssuer, api.TagComments), api.Verdict{})
	wantVerdict(t, "P14.4: the list's order is not the answer's", get(api.TagDoneID, api.TagStepAttributes, api.TagModality, api.TagDoneID, api.TagIssuer),
		api.Verdict{Data: list(el(api.TagModality, "CT"), el(api.TagDoneID, "P1"), seq(api.TagStepAttributes, about("A1")))})
	wantVerdict(t, "P14.4: strange ones in the list's order", get(0xFFFFFFFF, api.TagModality, 0, api.TagStudyUID, 0, api.TagItem, api.TagCharset, 0xFFFFFFFF),
		refused(0x0105, 0xFFFFFFFF, 0, api.TagStudyUID, api.TagItem, api.TagCharset))
	wantVerdict(t, "P14.4: no such one", mpps.Get(st, "1.8", nil), refused(0x0112))
	wantVerdict(t, "P14.4: no such one, strange", mpps.Get(st, "1.8", []api.Tag{0}), refused(0x0112))
	wantVerdict(t, "P14.4: no UID", mpps.Get(st, "", []api.Tag{api.TagModality}), refused(0x0112))
	wantVerdict(t, "P14.4: no state", mpps.Get(api.State{}, "1.9", nil), refused(0x0112))
}

// TestGetEach: every tag of the top level may be asked for, and is told with all that is in it; no other may.
func TestGetEach(t *testing.T) {
	for _, state := range []int{api.PerfProgress, api.PerfCompleted, api.PerfDiscontinued} {
		word := []string{"", "IN PROGRESS", "COMPLETED", "DISCONTINUED"}[state]
		row := with(rich(), api.TagDoneStatus, word)
		st := scheduled(perf("1.8", api.PerfProgress, plain("A1")), perf("1.9", state, row))
		sound(t, st)
		var all []api.Node
		for _, tag := range someTags() {
			want := refused(0x0105, tag)
			if _, known := lineOf(topLines, tag); known {
				from, to := place(row, tag)
				want = api.Verdict{Data: row[from:to]}
				all = append(all, row[from:to]...)
			}
			wantVerdict(t, "P14.4: "+dict.PrintTag(tag), mpps.Get(st, "1.9", []api.Tag{tag}), want)
		}
		if !slices.Equal(all, row) {
			t.Error("the test does not ask for all")
		}
	}
}
