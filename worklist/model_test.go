package worklist_test

import (
	"bufio"
	"fmt"
	"reflect"
	"strings"

	"modality/api"
	"modality/dict"
	"modality/value"
)

// The document once more, read another way: its tables as text, keys as a tree, days and times as texts that order as they do.

const topTable = `
(0008,0050) SH Accession
(0008,0090) PN Referrer
(0010,0010) PN PatientName
(0010,0020) LO PatientID
(0010,0021) LO Issuer
(0010,0030) DA Birth
(0010,0040) CS Sex
(0020,000D) UI Study
(0032,1060) LO ProcedureDesc
(0040,0100) SQ -
(0040,1001) SH Procedure
`

const stepTable = `
(0008,0060) CS Modality
(0040,0001) AE Station
(0040,0002) DA Date
(0040,0003) TM Time
(0040,0006) PN Performer
(0040,0007) LO Desc
(0040,0009) SH ID
(0040,0010) SH StationName
(0040,0011) SH Location
(0040,0020) CS Status
`

// line is a line of a table.
type line struct {
	tag   api.Tag
	vr    api.VR
	field string // of api.Step
}

// tables has the lines of both tables, so that each is read once.
var tables = map[string][]line{topTable: linesIn(topTable), stepTable: linesIn(stepTable)}

func linesOf(table string) []line { return tables[table] }

func linesIn(table string) []line {
	var lines []line
	for s := bufio.NewScanner(strings.NewReader(strings.TrimSpace(table))); s.Scan(); {
		words := strings.Fields(s.Text())
		tag, err := dict.ParseTag(words[0])
		vr, err2 := dict.VROf(words[1])
		if err != nil || err2 != nil {
			panic(s.Text())
		}
		lines = append(lines, line{tag, vr, words[2]})
	}
	return lines
}

func (l line) isSequence() bool { return l.vr == api.VRSQ }

// text tells what a step has in the line's field.
func (l line) text(s api.Step) string {
	if l.field == "Status" {
		return map[int]string{1: "SCHEDULED", 2: "STARTED", 3: "COMPLETED", 4: "DISCONTINUED"}[s.Status]
	}
	return reflect.ValueOf(s).FieldByName(l.field).String()
}

// blank is the line's element without a value.
func (l line) blank() api.Node { return api.Node{Tag: l.tag, VR: l.vr} }

func lineOf(table string, tag api.Tag) (line, bool) {
	for _, l := range linesOf(table) {
		if l.tag == tag {
			return l, true
		}
	}
	return line{}, false
}

// tree is an element with its items.
type tree struct {
	node  api.Node
	items [][]tree
}

// grown reads so many elements from the front of a list; all that there are, if many is below 0.
func grown(nodes []api.Node, many int) (trees []tree, rest []api.Node) {
	for many != 0 && len(nodes) > 0 {
		e := tree{node: nodes[0]}
		nodes = nodes[1:]
		for range e.node.N {
			var elements []tree
			elements, nodes = grown(nodes[1:], nodes[0].N)
			e.items = append(e.items, elements)
		}
		trees = append(trees, e)
		many--
	}
	return trees, nodes
}

func pick(trees []tree, tag api.Tag) (tree, bool) {
	for _, e := range trees {
		if e.node.Tag == tag {
			return e, true
		}
	}
	return tree{}, false
}

// modelKey is a known key that is no sequence.
type modelKey struct {
	line
	value string
}

// modelKeys gives the known keys in the list's order, and whether another element has a value.
func modelKeys(keys []api.Node) (known []modelKey, others bool) {
	top, _ := grown(keys, -1)
	for _, e := range top {
		if e.node.Tag != api.TagSteps {
			known, others = modelKeyOf(topTable, e, known, others)
			continue
		}
		for i, elements := range e.items {
			for _, inner := range elements {
				if i == 0 {
					known, others = modelKeyOf(stepTable, inner, known, others)
				} else {
					others = others || hasValue(inner)
				}
			}
		}
	}
	return known, others
}

func modelKeyOf(table string, e tree, known []modelKey, others bool) ([]modelKey, bool) {
	if l, ok := lineOf(table, e.node.Tag); ok {
		return append(known, modelKey{l, e.node.Value}), others
	}
	return known, others || hasValue(e)
}

func hasValue(e tree) bool {
	if e.node.Value != "" {
		return true
	}
	for _, elements := range e.items {
		for _, inner := range elements {
			if hasValue(inner) {
				return true
			}
		}
	}
	return false
}

// together tells the ranges of day and time, if the two are one.
func together(known []modelKey) (day, time string, ok bool) {
	for _, k := range known {
		switch k.field {
		case "Date":
			day = k.value
		case "Time":
			time = k.value
		}
	}
	return day, time, strings.Contains(day, "-") && strings.Contains(time, "-")
}

func modelLook(keys []api.Node) looked {
	if dict.Formed(keys) != nil {
		return offends()
	}
	top, _ := grown(keys, -1)
	if e, _ := pick(top, api.TagSteps); len(e.items) > 1 {
		return offends(api.TagSteps)
	}
	known, others := modelKeys(keys)
	_, _, one := together(known)
	for _, k := range known {
		switch {
		case one && k.field == "Time":
			if !modelTimes(k.value) {
				return offends(k.tag)
			}
		case value.Key(k.vr, k.value) != nil:
			return offends(k.tag)
		}
	}
	return looked{Warned: others}
}

// modelTimes tells whether two pieces around one hyphen are times or empty, not both empty.
func modelTimes(s string) bool {
	pieces := strings.Split(s, "-")
	if len(pieces) != 2 || s == "-" {
		return false
	}
	for _, p := range pieces {
		if _, err := value.ParseTime(p); p != "" && err != nil {
			return false
		}
	}
	return true
}

func modelMatches(s api.Step, keys []api.Node) bool {
	if modelLook(keys).Status != 0 {
		return false
	}
	known, _ := modelKeys(keys)
	day, time, one := together(known)
	for _, k := range known {
		if one && (k.field == "Date" || k.field == "Time") {
			continue
		}
		if ok, err := value.Match(k.vr, k.value, k.text(s)); err != nil || !ok {
			return false
		}
	}
	return !one || modelWithin(s, day, time)
}

// modelWithin holds texts of one length against each other: the day, the time with its six digits behind the point.
func modelWithin(s api.Step, day, time string) bool {
	if _, err := value.ParseDate(s.Date); err != nil {
		return false
	}
	if _, err := value.ParseTime(s.Time); err != nil {
		return false
	}
	x := s.Date + fill(s.Time, "000000.000000")
	d, t := strings.Split(day, "-"), strings.Split(time, "-")
	return (d[0] == "" || x >= d[0]+fill(t[0], "000000.000000")) && (d[1] == "" || x <= d[1]+lastOf(t[1]))
}

// lastOf fills up a time to its last tick; no time: to that of the day.
func lastOf(time string) string {
	if time == "" {
		time = "23"
	}
	return fill(time, "005960.999999")
}

func fill(time, with string) string { return time + with[len(time):] }

func modelProject(s api.Step, keys []api.Node) []api.Node {
	if dict.Formed(keys) != nil {
		return nil
	}
	var nodes []api.Node
	top, _ := grown(keys, -1)
	for _, e := range top {
		if e.node.Tag == api.TagSteps {
			nodes = append(nodes, modelStep(s, e)...)
		} else {
			nodes = append(nodes, modelTold(s, topTable, e.node))
		}
	}
	return nodes
}

func modelStep(s api.Step, e tree) []api.Node {
	var told []api.Node
	if len(e.items) > 0 {
		for _, inner := range e.items[0] {
			told = append(told, modelTold(s, stepTable, inner.node))
		}
	}
	if told == nil {
		for _, l := range linesOf(stepTable) {
			told = append(told, modelTold(s, stepTable, l.blank()))
		}
	}
	return steps(told...)
}

func modelTold(s api.Step, table string, n api.Node) api.Node {
	told := api.Node{Tag: n.Tag, VR: n.VR}
	if l, ok := lineOf(table, n.Tag); ok {
		told.Value = l.text(s)
	}
	return told
}

func modelFind(list []api.Step, keys []api.Node) found {
	f := found{Looked: modelLook(keys)}
	for _, s := range list {
		if modelMatches(s, keys) {
			f.Answers = append(f.Answers, modelProject(s, keys))
		}
	}
	return f
}

// fieldsOf gives the names of a step's fields that are texts.
func fieldsOf() []string {
	var names []string
	t := reflect.TypeFor[api.Step]()
	for i := range t.NumField() {
		if t.Field(i).Type.Kind() == reflect.String {
			names = append(names, t.Field(i).Name)
		}
	}
	return names
}

func set(s *api.Step, field, text string) {
	if f := reflect.ValueOf(s).Elem().FieldByName(field); f.IsValid() {
		f.SetString(text)
		return
	}
	panic(fmt.Sprint("no field ", field))
}
