package engine_test

import (
	"fmt"
	"math/rand/v2"
	"reflect"
	"strings"
	"testing"

	"modality/api"
	"modality/dict"
	"modality/engine"
)

const (
	head    = "server RIS 4 10 20 2000 8"
	scanner = "scanner 0 CT1 RIS 0 10 explicit,implicit verify,worklist,perform,retrieve"
)

func same(a, b any) bool { return reflect.DeepEqual(a, b) }

// shown tells the beginning of anything.
func shown(x any) string { return fmt.Sprintf("%.2500s", fmt.Sprintf("%+v", x)) }

// fault is this layer's at a place, with a reason.
func fault(at int, reason error) error {
	return &api.Fault{Layer: "engine", At: at, Err: reason}
}

// joined is lines as a text.
func joined(lines ...string) string { return strings.Join(lines, "\n") + "\n" }

func parse(t *testing.T, lines ...string) api.Script {
	t.Helper()
	s, err := engine.Parse(joined(lines...))
	if err != nil {
		t.Fatalf("P18.1: %q: %v", lines, err)
	}
	return s
}

func play(t *testing.T, lines ...string) string {
	t.Helper()
	report, err := engine.Play(joined(lines...))
	if err != nil {
		t.Fatalf("P18.3: %q: %v", lines, err)
	}
	return report
}

// reports: a text's report is just these lines.
func reports(t *testing.T, what string, lines []string, want ...string) {
	t.Helper()
	if got := play(t, lines...); got != joined(want...) {
		t.Errorf("%s: the report is\n%s\nnot\n%s", what, got, joined(want...))
	}
}

func one[T any](r *rand.Rand, list ...T) T { return list[r.IntN(len(list))] }

// quoted writes a word as P18.2 says, character by character.
func quoted(text string) string {
	var b strings.Builder
	for i := 0; i < len(text); {
		n := 1
		for n < 4 && i+n < len(text) && !isCharacter(text[i:i+n]) {
			n++
		}
		switch piece := text[i:min(i+n, len(text))]; {
		case text[i] == '\n':
			b.WriteString(`\n`)
		case text[i] == '\r':
			b.WriteString(`\r`)
		case text[i] == '\t':
			b.WriteString(`\t`)
		case text[i] == '"' || text[i] == '\\':
			b.WriteString(`\` + piece)
		case text[i] < 32 || text[i] == 127 || !isCharacter(piece):
			fmt.Fprintf(&b, `\x%02x`, text[i])
			n = 1
		default:
			b.WriteString(piece)
		}
		i += n
	}
	return `"` + b.String() + `"`
}

// isCharacter tells whether a text is one character in UTF-8.
func isCharacter(text string) bool {
	r := []rune(text)
	return len(r) == 1 && string(r) == text
}

// el is an element of a tag that the dictionary knows; a sequence has no items.
func el(tag api.Tag, value string) api.Node {
	return api.Node{Tag: tag, VR: dict.Default(tag), Value: value}
}

// list puts nodes and lists of them one behind the other.
func list(parts ...any) []api.Node {
	var all []api.Node
	for _, p := range parts {
		switch x := p.(type) {
		case api.Node:
			all = append(all, x)
		case []api.Node:
			all = append(all, x...)
		}
	}
	return all
}

// holding is an item with these elements and what is in them.
func holding(parts ...any) []api.Node {
	inside := list(parts...)
	count := 0
	for i := 0; i < len(inside); i = dict.Next(inside, i) {
		count++
	}
	return list(api.Node{Tag: api.TagItem, VR: api.VRItem, N: count}, inside)
}

// seq is a sequence with one item.
func seq(tag api.Tag, item []api.Node) []api.Node {
	return list(api.Node{Tag: tag, VR: api.VRSQ, N: 1}, item)
}

// performed is the data set D of chapter 14, about a step.
func performed(id, patient, comment string) []api.Node {
	about := holding(el(api.TagAccession, ""), el(api.TagRefStudies, ""), el(api.TagStudyUID, "1.2"), el(api.TagProcedureDesc, ""),
		el(api.TagStepDesc, ""), el(api.TagProtocolCodes, ""), el(api.TagStepID, id), el(api.TagProcedureID, ""))
	return list(el(api.TagModality, "CT"), el(api.TagProcedureCodes, ""), el(api.TagRefPatients, ""), el(api.TagPatientName, patient),
		el(api.TagPatientID, "7"), el(api.TagBirthDate, ""), el(api.TagSex, ""), el(api.TagStudyID, ""), el(api.TagDoneStationAE, "CT1"),
		el(api.TagDoneStation, ""), el(api.TagDoneLocation, ""), el(api.TagDoneDate, "20260701"), el(api.TagDoneTime, "0830"),
		el(api.TagEndDate, ""), el(api.TagEndTime, ""), el(api.TagDoneStatus, "IN PROGRESS"), el(api.TagDoneID, "P1"),
		el(api.TagDoneDesc, ""), el(api.TagDoneType, ""), el(api.TagDoneProtocols, ""), seq(api.TagStepAttributes, about),
		el(api.TagComments, comment), el(api.TagSeries, ""))
}

// ended is what a Set says that ends a step.
func ended(status string) []api.Node {
	series := holding(el(api.TagRetrieveAE, ""), el(api.TagSeriesDesc, ""), el(api.TagPerformerName, ""), el(api.TagOperators, ""),
		el(api.TagRefImages, ""), el(api.TagProtocol, "Head"), el(api.TagSeriesUID, "1.2.3"))
	return list(el(api.TagEndDate, "20260701"), el(api.TagEndTime, "0915"), el(api.TagDoneStatus, status), seq(api.TagSeries, series))
}
