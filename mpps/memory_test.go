package mpps_test

import (
	"slices"
	"testing"

	"modality/api"
	"modality/mpps"
)

// What is handed in has spare room with something in it; what is handed out is written over, spare room included.

func roomy[T any](list []T, room T) []T {
	return append(slices.Clone(list), room)[:len(list)]
}

// roomKept tells whether a list and the room behind it are as they were.
func roomKept[T any](list, was []T, room T) bool {
	return same(append([]T(nil), list...), append([]T(nil), was...)) && same(list[:len(list)+1][len(list)], room)
}

func smear[T any](list []T, with T) {
	for i := range list[:cap(list)] {
		list[:cap(list)][i] = with
	}
}

func smearVerdict(v api.Verdict) {
	smear(v.Offending, 1)
	smear(v.Data, api.Node{Value: "smeared"})
	smear(v.Change.Perf.Data, api.Node{Value: "smeared"})
	smear(v.Change.Moves, api.Move{ID: "smeared"})
}

var (
	nodeRoom = api.Node{Value: "room"}
	stepRoom = api.Step{ID: "room"}
	perfRoom = api.Perf{UID: "room"}
)

func roomyState(row []api.Node) api.State {
	st := scheduled()
	st.Steps = roomy([]api.Step{step("A1", 1), step("A2", 2)}, stepRoom)
	st.Perfs = roomy([]api.Perf{perf("1.8", api.PerfProgress, roomy(row, nodeRoom))}, perfRoom)
	return st
}

func stateKept(st api.State, row []api.Node) bool {
	return roomKept(st.Steps, []api.Step{step("A1", 1), step("A2", 2)}, stepRoom) &&
		roomKept(st.Perfs, []api.Perf{perf("1.8", api.PerfProgress, row)}, perfRoom) && roomKept(st.Perfs[0].Data, row, nodeRoom)
}

// asked are requests that come to every kind of verdict.
type asked struct {
	name string
	row  []api.Node // of the performed step 1.8
	ds   []api.Node
	tags []api.Tag
	ask  func(st api.State, ds []api.Node, tags []api.Tag) api.Verdict
}

func manyAsked() []asked {
	create := func(st api.State, ds []api.Node, tags []api.Tag) api.Verdict { return mpps.Create(st, "1.9", ds) }
	set := func(st api.State, ds []api.Node, tags []api.Tag) api.Verdict { return mpps.Set(st, "1.8", ds) }
	get := func(st api.State, ds []api.Node, tags []api.Tag) api.Verdict { return mpps.Get(st, "1.8", tags) }
	return []asked{
		{"created", plain("A2"), rich(), nil, create},
		{"missing", plain("A2"), nil, nil, create},
		{"empty", plain("A2"), with(plain("A1"), api.TagDoneID, ""), nil, create},
		{"completed", plain("A2"), with(plain("A1"), api.TagDoneStatus, "COMPLETED"), nil, create},
		{"set", plain("A2"), settable(rich()), nil, set},
		{"set anew", list(el(api.TagDoneStatus, "IN PROGRESS")), settable(rich()), nil, set},
		{"ended", plain("A2"), finish("COMPLETED"), nil, set},
		{"nothing", plain("A2"), nil, nil, set},
		{"not yet ended", plain("A2"), list(el(api.TagDoneStatus, "COMPLETED")), nil, set},
		{"strange", plain("A2"), list(el(api.TagModality, "CT")), nil, set},
		{"told", rich(), nil, nil, get},
		{"some told", rich(), nil, []api.Tag{api.TagModality, api.TagSeries}, get},
		{"one told", rich(), nil, []api.Tag{api.TagSeries}, get},
		{"strange told", rich(), nil, []api.Tag{api.TagModality, api.TagStudyUID}, get},
	}
}

// TestMemory: nothing that is handed in is changed or kept, nothing that is handed out is shared.
func TestMemory(t *testing.T) {
	for _, a := range manyAsked() {
		st, ds, tags := roomyState(a.row), roomy(a.ds, nodeRoom), roomy(a.tags, 0x77777777)
		want := a.ask(roomyState(a.row), slices.Clone(a.ds), slices.Clone(a.tags))
		first, second := a.ask(st, ds, tags), a.ask(st, ds, tags)
		smearVerdict(first)
		if !stateKept(st, a.row) || !roomKept(ds, a.ds, nodeRoom) || !roomKept(tags, a.tags, 0x77777777) {
			t.Errorf("DOC.md, Memory: %s: what was handed in has changed", a.name)
		}
		if !same(second, want) {
			t.Errorf("DOC.md, Memory: %s: two answers share memory", a.name)
		}
		smear(st.Perfs[0].Data, api.Node{Value: "gone"})
		smear(st.Steps, api.Step{ID: "gone"})
		smear(ds, api.Node{Value: "gone"})
		smear(tags, 2)
		if !same(second, want) {
			t.Errorf("DOC.md, Memory: %s: an answer shares memory with what was handed in", a.name)
		}
		if third := a.ask(roomyState(a.row), slices.Clone(a.ds), slices.Clone(a.tags)); !same(third, want) {
			t.Errorf("DOC.md, Memory: %s: something was kept", a.name)
		}
	}
}

// TestMemoryNil: an answer's list without an element is nil, and what comes in may be nil or empty.
func TestMemoryNil(t *testing.T) {
	st := started(plain("A1"))
	empty := api.State{Steps: []api.Step{}, Perfs: []api.Perf{}}
	for name, v := range map[string]api.Verdict{
		"no moves":    mpps.Create(empty, "1.9", plain("A1")),
		"no steps":    mpps.Create(api.State{}, "1.9", plain("A1")),
		"no change":   mpps.Set(st, "1.9", []api.Node{}),
		"goes on":     mpps.Set(st, "1.9", list(el(api.TagComments, ""))),
		"final":       mpps.Set(scheduled(perf("1.9", 2, nil)), "1.9", nil),
		"not there":   mpps.Get(empty, "1.9", []api.Tag{}),
		"not in it":   mpps.Get(st, "1.9", []api.Tag{api.TagIssuer}),
		"no row":      mpps.Get(scheduled(perf("1.9", 1, []api.Node{})), "1.9", nil),
		"no instance": mpps.Create(empty, "", plain("A1")),
	} {
		for i, isNil := range []bool{v.Offending == nil, v.Change.Moves == nil, v.Change.Steps == nil, v.Change.IDs == nil, v.Data == nil} {
			if !isNil {
				t.Errorf("DOC.md: %s: list %d is not nil: %s", name, i, shown(v))
			}
		}
	}
}
