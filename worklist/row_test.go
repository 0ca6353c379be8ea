package worklist_test

import (
	"math"
	"testing"

	"modality/api"
	"modality/dict"
	"modality/worklist"
)

// rowOf writes a step's row by the document's tables.
func rowOf(s api.Step) []api.Node {
	var row []api.Node
	for _, l := range linesOf(topTable) {
		if !l.isSequence() {
			row = append(row, api.Node{Tag: l.tag, VR: l.vr, Value: l.text(s)})
			continue
		}
		row = append(row, api.Node{Tag: l.tag, VR: l.vr, N: 1}, item(10))
		for _, in := range linesOf(stepTable) {
			row = append(row, api.Node{Tag: in.tag, VR: in.vr, Value: in.text(s)})
		}
	}
	return row
}

func TestRow(t *testing.T) {
	for _, s := range []api.Step{{}, s1(), full()} {
		got := worklist.Row(s)
		if !same(got, rowOf(s)) || len(got) != 22 {
			t.Errorf("P13.1: %s: %s", shown(s), shown(got))
		}
		if err := dict.Formed(got); err != nil {
			t.Errorf("P13.6: the row of %s: %v", shown(s), err)
		}
	}
}

// TestRowFields: each field stands in one node, whatever text it is, and no other changes by it.
func TestRowFields(t *testing.T) {
	for _, field := range fieldsOf() {
		for _, text := range []string{"x", " \x00", "\xff\xfe", `a\b`, "19700101", "ÄÖ^ü"} {
			s := full()
			set(&s, field, text)
			got, want := worklist.Row(s), rowOf(s)
			if !same(got, want) {
				t.Errorf("P13.1: %s %q: %s", field, text, shown(got))
			}
			changed := 0
			for i, n := range worklist.Row(full()) {
				if n != got[i] {
					changed++
				}
			}
			if changed > 1 || changed == 0 && same(s, full()) == false {
				t.Errorf("P13.1: %s %q changes %d nodes", field, text, changed)
			}
		}
	}
}

func TestRowStatus(t *testing.T) {
	words := map[int]string{1: "SCHEDULED", 2: "STARTED", 3: "COMPLETED", 4: "DISCONTINUED"}
	for _, status := range []int{0, 1, 2, 3, 4, 5, -1, 100, 257, math.MaxInt, math.MinInt} {
		s := full()
		s.Status = status
		if got, _ := dict.Value(worklist.Row(s)[11:], api.TagStepStatus); got != words[status] {
			t.Errorf("P13.1: status %d is %q", status, got)
		}
		if !same(worklist.Row(s), rowOf(s)) {
			t.Errorf("P13.1: status %d: %s", status, shown(worklist.Row(s)))
		}
	}
}
