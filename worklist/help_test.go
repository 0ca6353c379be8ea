package worklist_test

import (
	"fmt"
	"reflect"
	"testing"

	"modality/api"
	"modality/dict"
	"modality/worklist"
)

func same(a, b any) bool { return reflect.DeepEqual(a, b) }

// shown tells the beginning of anything.
func shown(x any) string { return fmt.Sprintf("%.1500s", fmt.Sprintf("%+q", x)) }

// el is an element of a tag that the dictionary knows.
func el(tag api.Tag, value string) api.Node {
	return api.Node{Tag: tag, VR: dict.Default(tag), Value: value}
}

func item(n int) api.Node { return api.Node{Tag: api.TagItem, VR: api.VRItem, N: n} }

// seq is a sequence with an item that has these elements; each is an element that holds nothing.
func seq(tag api.Tag, elements ...api.Node) []api.Node {
	return list(api.Node{Tag: tag, VR: api.VRSQ, N: 1}, item(len(elements)), elements)
}

// steps is (0040,0100) with one item.
func steps(elements ...api.Node) []api.Node { return seq(api.TagSteps, elements...) }

func when(day, time string) []api.Node {
	return steps(el(api.TagStartDate, day), el(api.TagStartTime, time))
}

// list puts nodes and lists of them one behind the other.
func list(parts ...any) []api.Node {
	var all []api.Node
	for _, p := range parts {
		switch x := p.(type) {
		case api.Node:
			all = append(all, x)
		case []api.Node:
			all = append(all, x...)
		}
	}
	return all
}

// s1 is the step of the document's examples.
func s1() api.Step {
	return api.Step{ID: "S1", Modality: "CT", Station: "CT1", Date: "20260105", Time: "0930", PatientName: "Doe^Jane", Status: api.StepScheduled}
}

// full is a step with something in every field, each unlike the others.
func full() api.Step {
	return api.Step{
		ID: "S7", Accession: "A1", Procedure: "RP1", ProcedureDesc: "Schädel", Study: "1.2.3", PatientName: "Doe^Jane^Q^Dr^Jr=a=b",
		PatientID: "P1", Issuer: "H", Birth: "19700101", Sex: "F", Referrer: "Smith^Ann", Modality: "MR",
		Station: "SCAN 1", StationName: "Room", Location: "W1", Date: "20240131", Time: "120060", Performer: "Tech^Tom",
		Desc: "Step", Status: api.StepScheduled,
	}
}

func at(day, time string) api.Step {
	s := s1()
	s.Date, s.Time = day, time
	return s
}

// looked is what Look answers.
type looked struct {
	Warned    bool
	Status    uint16
	Offending []api.Tag
}

func look(keys []api.Node) looked {
	warned, status, offending := worklist.Look(keys)
	return looked{warned, status, offending}
}

var (
	taken  = looked{}
	warned = looked{Warned: true}
)

func offends(tags ...api.Tag) looked { return looked{Status: 0xA900, Offending: tags} }

// found is what Find answers.
type found struct {
	Answers [][]api.Node
	Looked  looked
}

func find(list []api.Step, keys []api.Node) found {
	answers, warned, status, offending := worklist.Find(list, keys)
	return found{answers, looked{warned, status, offending}}
}

func wantLook(t *testing.T, what string, keys []api.Node, want looked) {
	t.Helper()
	if got := look(keys); !same(got, want) {
		t.Errorf("P13.2: %s: %+v, not %+v", what, got, want)
	}
}

func wantMatch(t *testing.T, s api.Step, keys []api.Node, want bool) {
	t.Helper()
	if worklist.Matches(s, keys) != want {
		t.Errorf("P13.3: %s matches %s: %v", shown(s), shown(keys), !want)
	}
}
