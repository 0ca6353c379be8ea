package worklist_test

import (
	"fmt"
	"runtime"
	"slices"
	"testing"
	"time"

	"modality/api"
	"modality/worklist"
)

// schedule gives so many steps; every third is an MR's.
func schedule(n int) []api.Step {
	var list []api.Step
	for i := range n {
		s := s1()
		s.ID = fmt.Sprintf("S%05d", i)
		if i%3 == 0 {
			s.Modality = "MR"
		}
		list = append(list, s)
	}
	return list
}

func TestFindExamples(t *testing.T) {
	s := s1()
	for _, keys := range [][]api.Node{
		nil,
		list(el(api.TagPatientName, "doe*"), steps(el(api.TagModality, "CT"), el(api.TagStepID, ""))),
		list(el(api.TagSteps, "")),
		list(api.Node{Tag: api.TagSteps, VR: api.VRSQ, N: 2}, item(0), item(0)),
		when("20260104-20260105", "1800-0800"), when("20260104-20260105", "0800-1000"), when("20260104-20260105", "0930"), when("20260105", "1000-0900"),
		list(el(api.TagModality, "MR")),
		seq(0x00321064, el(api.TagCodeValue, "X")), seq(0x00321064, el(api.TagCodeValue, "")),
		steps(el(api.TagStepStatus, "SCHEDULED")), steps(el(api.TagStepStatus, "S*")), steps(el(api.TagStepStatus, "STARTED")),
		list(el(api.TagBirthDate, "2026")), when("-", "-"),
		{item(0)},
	} {
		for _, all := range [][]api.Step{nil, {}, {s}, {s, full(), s}} {
			if got, want := find(all, keys), modelFind(all, keys); !same(got, want) {
				t.Errorf("P13.5: %s: %s, not %s", shown(keys), shown(got), shown(want))
			}
		}
	}
}

// TestFindEmpty: keys that name nothing have an answer without nodes for each step.
func TestFindEmpty(t *testing.T) {
	if got := find(schedule(3), nil); !same(got, found{Answers: [][]api.Node{nil, nil, nil}}) {
		t.Errorf("P13.5: %s", shown(got))
	}
	if got := find(nil, nil); !same(got, found{}) {
		t.Errorf("P13.5: %s", shown(got))
	}
}

// TestFindOrder: however many steps there are, the answers stand in their order, each step's once.
func TestFindOrder(t *testing.T) {
	sizes := []int{255, 256, 257, 300, 1000, 5003}
	for n := range 70 {
		sizes = append(sizes, n)
	}
	for _, n := range sizes {
		list := schedule(n)
		for _, modality := range []string{"", "MR", "CT", "PT"} {
			checkOrder(t, list, modality)
			slices.Reverse(list)
			checkOrder(t, list, modality)
		}
	}
}

func checkOrder(t *testing.T, list []api.Step, modality string) {
	t.Helper()
	var want []string
	for _, s := range list {
		if modality == "" || s.Modality == modality {
			want = append(want, s.ID)
		}
	}
	answers, _, _, _ := worklist.Find(list, steps(el(api.TagModality, modality), el(api.TagStepID, "")))
	var got []string
	for _, a := range answers {
		got = append(got, a[3].Value)
	}
	if !slices.Equal(got, want) {
		t.Fatalf("P13.5: of %d steps %q: %.300q, not %.300q", len(list), modality, got, want)
	}
}

// TestFindAgain: nothing hangs on which part is done first.
func TestFindAgain(t *testing.T) {
	list := schedule(500)
	keys := steps(el(api.TagModality, "C?"), el(api.TagStepID, ""))
	want := find(list, keys)
	for range 200 {
		if got := find(list, keys); !same(got, want) {
			t.Fatalf("P13.5: %s, not %s", shown(got), shown(want))
		}
	}
}

// TestFindTwice: a step that stands twice is answered twice.
func TestFindTwice(t *testing.T) {
	answers, _, _, _ := worklist.Find([]api.Step{s1(), full(), s1()}, steps(el(api.TagStepID, "S1")))
	if len(answers) != 2 {
		t.Errorf("P13.5: %d answers", len(answers))
	}
}

// TestFindRefused: what Look refuses is refused just so, without answers; what it warns of is warned of.
func TestFindRefused(t *testing.T) {
	if got := find(schedule(3), list(el(api.TagModality, "x"), el(api.TagBirthDate, "x"))); !same(got, found{Looked: offends(api.TagBirthDate)}) {
		t.Errorf("P13.5: %s", shown(got))
	}
	if got := find(schedule(3), list(item(0))); !same(got, found{Looked: offends()}) {
		t.Errorf("P13.5: %s", shown(got))
	}
	if got := find(schedule(1), list(el(api.TagModality, "x"))); !same(got, found{[][]api.Node{{el(api.TagModality, "")}}, warned}) {
		t.Errorf("P13.5: %s", shown(got))
	}
	if got := find(nil, list(el(api.TagModality, "x"))); !same(got, found{Looked: warned}) {
		t.Errorf("P13.5: %s", shown(got))
	}
}

// TestFindEnds: no goroutine is left behind.
func TestFindEnds(t *testing.T) {
	before := runtime.NumGoroutine()
	for range 50 {
		find(schedule(100), nil)
	}
	for range 100 {
		if runtime.NumGoroutine() <= before {
			return
		}
		time.Sleep(time.Millisecond)
	}
	t.Errorf("LANGUAGE.md: %d goroutines were left", runtime.NumGoroutine()-before)
}
