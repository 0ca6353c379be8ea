package worklist_test

import (
	"testing"

	"modality/api"
	"modality/worklist"
)

// What is handed in has spare room with something in it; what is handed out is written over, spare room included.

func roomyKeys(keys []api.Node) []api.Node {
	return append(append([]api.Node(nil), keys...), api.Node{Value: "room"})[:len(keys)]
}

func roomySteps(n int) []api.Step {
	return append(schedule(n), api.Step{ID: "room"})[:n]
}

func smear(nodes []api.Node) {
	for i := range nodes[:cap(nodes)] {
		nodes[:cap(nodes)][i] = api.Node{Value: "smeared"}
	}
}

func smearTags(tags []api.Tag) {
	for i := range tags[:cap(tags)] {
		tags[:cap(tags)][i] = 1
	}
}

// manyKeys are such as each face goes through in its own way.
func manyKeys() [][]api.Node {
	return [][]api.Node{
		nil,
		list(el(api.TagPatientName, "doe*"), el(api.TagSteps, ""), el(api.TagProcedureID, "")),
		list(el(api.TagPatientName, "doe*"), steps(el(api.TagModality, "CT"), el(api.TagStepID, ""))),
		list(seq(0x00321064, el(api.TagCodeValue, "X")), when("20260104-20260106", "18-08")),
		list(api.Node{Tag: api.TagSteps, VR: api.VRSQ, N: 2}, item(1), el(api.TagStepID, ""), item(0)),
		list(el(api.TagBirthDate, "2026")),
		{item(0)},
	}
}

func TestMemoryIn(t *testing.T) {
	for i, plain := range manyKeys() {
		keys, all := roomyKeys(plain), roomySteps(20)
		worklist.Look(keys)
		for _, s := range all {
			worklist.Matches(s, keys)
			smear(worklist.Project(s, keys))
		}
		answers, _, _, offending := worklist.Find(all, keys)
		smearTags(offending)
		for _, a := range answers[:cap(answers)] {
			smear(a)
		}
		if !same(append([]api.Node(nil), keys...), append([]api.Node(nil), plain...)) || keys[:len(keys)+1][len(keys)].Value != "room" {
			t.Errorf("DOC.md, Memory: keys %d were changed: %s", i, shown(keys))
		}
		if !same(all, schedule(20)) || all[:21][20].ID != "room" {
			t.Errorf("DOC.md, Memory: by keys %d steps were changed", i)
		}
	}
}

func TestMemoryOut(t *testing.T) {
	all := schedule(40)
	for i, keys := range manyKeys() {
		want := find(all, keys)
		first, second := find(all, keys), find(all, keys)
		smearTags(first.Looked.Offending)
		for k := range first.Answers {
			smear(first.Answers[k])
			for later := k + 1; later < len(first.Answers); later++ {
				if !same(first.Answers[later], want.Answers[later]) {
					t.Fatalf("DOC.md, Memory: keys %d: the answers %d and %d share memory", i, k, later)
				}
			}
		}
		clear(first.Answers[:cap(first.Answers)])
		if !same(second, want) || !same(find(all, keys), want) {
			t.Errorf("DOC.md, Memory: keys %d: two calls' answers share memory", i)
		}
		s := all[0]
		told := worklist.Project(s, keys)
		smear(told)
		if !same(worklist.Project(s, keys), modelProject(s, keys)) {
			t.Errorf("DOC.md, Memory: keys %d: two projections share memory", i)
		}
		got := look(keys)
		smearTags(got.Offending)
		wantLook(t, "once more", keys, modelLook(keys))
	}
	smear(worklist.Row(full()))
	if !same(worklist.Row(full()), rowOf(full())) {
		t.Error("DOC.md, Memory: two rows share memory")
	}
}
