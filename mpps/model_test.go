package mpps_test

import (
	"slices"
	"strings"

	"modality/api"
	"modality/dict"
	"modality/store"
	"modality/value"
)

// The document once more, read another way: its table as text, data sets as trees.

const document = `
| (0008,0060) | Modality | 1 | - | |
| (0008,1032) | Procedure Code Sequence, *codes* | 2 | 3 | |
| (0008,1120) | Referenced Patient Sequence, *references* | 2 | - | |
| (0010,0010) | Patient's Name | 2 | - | |
| (0010,0020) | Patient ID | 2 | - | |
| (0010,0021) | Issuer of Patient ID | 3 | - | |
| (0010,0030) | Patient's Birth Date | 2 | - | |
| (0010,0040) | Patient's Sex | 2 | - | |
| (0020,0010) | Study ID | 2 | - | |
| (0040,0241) | Performed Station AE Title | 1 | - | |
| (0040,0242) | Performed Station Name | 2 | - | |
| (0040,0243) | Performed Location | 2 | - | |
| (0040,0244) | Performed Procedure Step Start Date | 1 | - | |
| (0040,0245) | Performed Procedure Step Start Time | 1 | - | |
| (0040,0250) | Performed Procedure Step End Date | 2 | 3 | yes |
| (0040,0251) | Performed Procedure Step End Time | 2 | 3 | yes |
| (0040,0252) | Performed Procedure Step Status | 1 | 3 | |
| (0040,0253) | Performed Procedure Step ID | 1 | - | |
| (0040,0254) | Performed Procedure Step Description | 2 | 3 | |
| (0040,0255) | Performed Procedure Type Description | 2 | 3 | |
| (0040,0260) | Performed Protocol Code Sequence, *codes* | 2 | 3 | |
| (0040,0270) | Scheduled Step Attributes Sequence | 1 | - | |
| . (0008,0050) | Accession Number | 2 | | |
| . (0008,1110) | Referenced Study Sequence, *references* | 2 | | |
| . (0020,000D) | Study Instance UID | 1 | | |
| . (0032,1060) | Requested Procedure Description | 2 | | |
| . (0040,0007) | Scheduled Procedure Step Description | 2 | | |
| . (0040,0008) | Scheduled Protocol Code Sequence, *codes* | 2 | | |
| . (0040,0009) | Scheduled Procedure Step ID | 2 | | |
| . (0040,1001) | Requested Procedure ID | 2 | | |
| (0040,0280) | Comments on the Performed Procedure Step | 3 | 3 | |
| (0040,0281) | Performed Procedure Step Discontinuation Reason Code Sequence, *codes* | 3 | 3 | |
| (0040,0340) | Performed Series Sequence | 2 | 3 | yes |
| . (0008,0054) | Retrieve AE Title | 2 | | |
| . (0008,103E) | Series Description | 2 | | |
| . (0008,1050) | Performing Physician's Name | 2 | | |
| . (0008,1070) | Operators' Name | 2 | | |
| . (0008,1140) | Referenced Image Sequence, *references* | 2 | | |
| . (0018,1030) | Protocol Name | 1 | | |
| . (0020,000E) | Series Instance UID | 1 | | |
`

const codes = `
| (0008,0100) | Code Value | 1 | | |
| (0008,0102) | Coding Scheme Designator | 1 | | |
| (0008,0104) | Code Meaning | 3 | | |
`

const references = `
| (0008,1150) | Referenced SOP Class UID | 1 | | |
| (0008,1155) | Referenced SOP Instance UID | 1 | | |
`

// line is a line of the table, with those of its items.
type line struct {
	tag              api.Tag
	create, set, end string
	items            []line
}

// topLines is the document's table, read once.
var topLines = linesOf(document)

func linesOf(text string) []line {
	var lines []line
	for _, row := range strings.Split(strings.TrimSpace(text), "\n") {
		cells := strings.Split(row, "|")
		for i := range cells {
			cells[i] = strings.TrimSpace(cells[i])
		}
		inner, isInner := strings.CutPrefix(cells[1], ". ")
		tag, err := dict.ParseTag(inner)
		if err != nil {
			panic(row)
		}
		l := line{tag: tag, create: cells[3], set: cells[4], end: cells[5]}
		switch {
		case strings.Contains(cells[2], "*codes*"):
			l.items = linesOf(codes)
		case strings.Contains(cells[2], "*references*"):
			l.items = linesOf(references)
		}
		if isInner {
			above := &lines[len(lines)-1]
			above.items = append(above.items, l)
			continue
		}
		lines = append(lines, l)
	}
	return lines
}

func lineOf(lines []line, tag api.Tag) (line, bool) {
	i := slices.IndexFunc(lines, func(l line) bool { return l.tag == tag })
	if i < 0 {
		return line{}, false
	}
	return lines[i], true
}

// tree is an element with its items.
type tree struct {
	node  api.Node
	items [][]tree
}

// grown reads so many elements from the front of a well-formed list; all that there are, if many is below 0.
func grown(nodes []api.Node, many int) (trees []tree, rest []api.Node) {
	for many != 0 && len(nodes) > 0 {
		e := tree{node: nodes[0]}
		nodes = nodes[1:]
		for range e.node.N {
			var elements []tree
			elements, nodes = grown(nodes[1:], nodes[0].N)
			e.items = append(e.items, elements)
		}
		trees = append(trees, e)
		many--
	}
	return trees, nodes
}

func topOf(nodes []api.Node) []tree {
	trees, _ := grown(nodes, -1)
	return trees
}

func felled(trees []tree) []api.Node {
	var nodes []api.Node
	for _, e := range trees {
		nodes = append(nodes, e.node)
		for _, elements := range e.items {
			nodes = append(append(nodes, item(len(elements))), felled(elements)...)
		}
	}
	return nodes
}

func pickTree(trees []tree, tag api.Tag) (tree, bool) {
	for _, e := range trees {
		if e.node.Tag == tag {
			return e, true
		}
	}
	return tree{}, false
}

// need is what the table asks of a line on the top level, or in items, in a call.
type need func(l line, top bool) string

func needCreate(l line, top bool) string { return l.create }

func needSet(l line, top bool) string {
	if top {
		return l.set
	}
	return l.create
}

func modelStrange(lines []line, trees []tree, top bool, of need) []api.Tag {
	var tags []api.Tag
	for _, e := range trees {
		l, ok := lineOf(lines, e.node.Tag)
		if !ok || of(l, top) == "-" {
			tags = append(tags, e.node.Tag)
			continue
		}
		for _, elements := range e.items {
			tags = append(tags, modelStrange(l.items, elements, false, of)...)
		}
	}
	return tags
}

func modelMayBe(n api.Node) bool {
	if n.VR == api.VRSQ {
		return true
	}
	if dict.Fits(n.Tag, n.VR, n.Value) != nil {
		return false
	}
	for _, single := range dict.Split(n.VR, n.Value) {
		var err error
		switch n.VR {
		case api.VRDA:
			_, err = value.ParseDate(single)
		case api.VRTM:
			_, err = value.ParseTime(single)
		}
		if err != nil {
			return false
		}
	}
	return n.Value == "" ||
		(n.Tag != api.TagSex || slices.Contains([]string{"M", "F", "O"}, n.Value)) &&
			(n.Tag != api.TagDoneStatus || slices.Contains([]string{"IN PROGRESS", "COMPLETED", "DISCONTINUED"}, n.Value))
}

// modelWrong needs no levels: all elements are known when it is asked for.
func modelWrong(nodes []api.Node) []api.Tag {
	var tags []api.Tag
	for _, n := range nodes {
		if n.VR != api.VRItem && !modelMayBe(n) {
			tags = append(tags, n.Tag)
		}
	}
	return tags
}

func modelMissing(lines []line, trees []tree, top bool, of need) []api.Tag {
	var tags []api.Tag
	for _, e := range trees {
		l, _ := lineOf(lines, e.node.Tag)
		for _, elements := range e.items {
			tags = append(tags, modelMissing(l.items, elements, false, of)...)
		}
	}
	for _, l := range lines {
		if _, ok := pickTree(trees, l.tag); !ok && (of(l, top) == "1" || of(l, top) == "2") {
			tags = append(tags, l.tag)
		}
	}
	return tags
}

func modelEmpty(lines []line, trees []tree, top bool, of need) []api.Tag {
	var tags []api.Tag
	for _, e := range trees {
		l, _ := lineOf(lines, e.node.Tag)
		if of(l, top) == "1" && e.node.Value == "" && len(e.items) == 0 {
			tags = append(tags, e.node.Tag)
		}
		for _, elements := range e.items {
			tags = append(tags, modelEmpty(l.items, elements, false, of)...)
		}
	}
	return tags
}

// named: each once, sixteen at most.
func named(tags []api.Tag) []api.Tag {
	var list []api.Tag
	for _, tag := range tags {
		if !slices.Contains(list, tag) && len(list) < 16 {
			list = append(list, tag)
		}
	}
	return list
}

// modelSize reckons Implicit by hand.
func modelSize(nodes []api.Node) int {
	size := 0
	for _, n := range nodes {
		size += 8 + (len(n.Value)+1)/2*2
		if _, known := dict.Find(n.Tag); n.VR == api.VRSQ && !known {
			size += 8
		}
	}
	return size
}

func modelFull(nodes []api.Node) bool { return len(nodes) > 4095 || modelSize(nodes) > 32768 }

// reason is a status with what is told with it, if the tags are there.
type reason struct {
	status uint16
	tags   []api.Tag
}

func firstOf(reasons ...reason) (api.Verdict, bool) {
	for _, r := range reasons {
		if len(r.tags) > 0 {
			return refused(r.status, named(r.tags)...), true
		}
	}
	return api.Verdict{}, false
}

func modelContents(ds []api.Node, of need) (api.Verdict, bool) {
	top := topOf(ds)
	strange := modelStrange(topLines, top, true, of)
	if len(strange) > 0 {
		return refused(0x0105, named(strange)...), true
	}
	return firstOf(
		reason{0x0106, modelWrong(ds)},
		reason{0x0120, modelMissing(topLines, top, true, of)},
		reason{0x0121, modelEmpty(topLines, top, true, of)},
	)
}

func modelCreate(st api.State, uid string, ds []api.Node) api.Verdict {
	_, there := modelPerf(st, uid)
	switch {
	case dict.Formed(ds) != nil:
		return refused(0x0110)
	case uid == "" || dict.Check(api.VRUI, uid) != nil:
		return refused(0x0117)
	case there:
		return refused(0x0111)
	}
	if v, bad := modelContents(ds, needCreate); bad {
		return v
	}
	switch word, _ := dict.Value(ds, api.TagDoneStatus); {
	case word != "IN PROGRESS":
		return refused(0x0106, api.TagDoneStatus)
	case len(st.Perfs) == 256 || modelFull(ds):
		return refused(0x0213)
	}
	return api.Verdict{Change: api.Mutation{Kind: api.MPerf, Perf: perf(uid, api.PerfProgress, ds), Moves: modelMoves(st, ds, 1, 2)}}
}

func modelPerf(st api.State, uid string) (api.Perf, bool) {
	for _, p := range st.Perfs {
		if p.UID == uid {
			return p, true
		}
	}
	return api.Perf{}, false
}

func modelMoves(st api.State, data []api.Node, from, to int) []api.Move {
	var moves []api.Move
	e, _ := pickTree(topOf(data), api.TagStepAttributes)
	for _, s := range st.Steps {
		names := func(elements []tree) bool {
			id, ok := pickTree(elements, api.TagStepID)
			return ok && id.node.Value == s.ID
		}
		if s.Status == from && slices.ContainsFunc(e.items, names) {
			moves = append(moves, api.Move{ID: s.ID, Status: to})
		}
	}
	return moves
}

func modelMerged(row, ds []api.Node) []api.Node {
	merged := topOf(row)
	for _, e := range topOf(ds) {
		i, there := slices.BinarySearchFunc(merged, e.node.Tag, func(x tree, tag api.Tag) int { return int(x.node.Tag) - int(tag) })
		if there {
			merged[i] = e
		} else {
			merged = slices.Insert(merged, i, e)
		}
	}
	return felled(merged)
}

// modelEnd has what a step that has ended lacks.
func modelEnd(data []api.Node) (missing, empty []api.Tag) {
	top := topOf(data)
	for _, l := range topLines {
		if l.end != "yes" {
			continue
		}
		e, there := pickTree(top, l.tag)
		switch {
		case !there:
			missing = append(missing, l.tag)
		case e.node.Value == "" && len(e.items) == 0:
			empty = append(empty, l.tag)
		}
	}
	return missing, empty
}

func modelSet(st api.State, uid string, ds []api.Node) api.Verdict {
	row, there := modelPerf(st, uid)
	switch {
	case dict.Formed(ds) != nil:
		return refused(0x0110)
	case !there:
		return refused(0x0112)
	case row.State != api.PerfProgress:
		return final
	}
	if v, bad := modelContents(ds, needSet); bad {
		return v
	}
	merged := modelMerged(row.Data, ds)
	word, _ := dict.Value(merged, api.TagDoneStatus)
	state := map[string]int{"IN PROGRESS": 1, "COMPLETED": 2, "DISCONTINUED": 3}[word]
	if word == "" {
		return refused(0x0121, api.TagDoneStatus)
	}
	if state != 1 {
		missing, empty := modelEnd(merged)
		if v, bad := firstOf(reason{0x0120, missing}, reason{0x0121, empty}); bad {
			return v
		}
	}
	if modelFull(merged) {
		return refused(0x0213)
	}
	if len(ds) == 0 {
		return api.Verdict{}
	}
	v := api.Verdict{Change: api.Mutation{Kind: api.MPerf, Perf: perf(uid, state, merged)}}
	if state != 1 {
		v.Change.Moves = modelMoves(st, merged, 2, state+1)
	}
	return v
}

func modelGet(st api.State, uid string, attrs []api.Tag) api.Verdict {
	row, there := modelPerf(st, uid)
	if !there {
		return refused(0x0112)
	}
	var strange []api.Tag
	for _, tag := range attrs {
		if _, ok := lineOf(topLines, tag); !ok {
			strange = append(strange, tag)
		}
	}
	if len(strange) > 0 {
		return refused(0x0105, named(strange)...)
	}
	var told []tree
	for _, e := range topOf(row.Data) {
		if len(attrs) == 0 || slices.Contains(attrs, e.node.Tag) {
			told = append(told, e)
		}
	}
	return api.Verdict{Data: felled(told)}
}

// isSound tells whether a verdict of a state has to be the document's.
func isSound(st api.State) bool { return store.Sound(st) == nil }
