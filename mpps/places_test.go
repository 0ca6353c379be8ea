package mpps_test

import (
	"slices"
	"testing"

	"modality/api"
	"modality/dict"
	"modality/mpps"
)

// spot is a level of a data set: the elements of the top, or of one of its items.
type spot struct {
	path  string
	lines []line
	trees *[]tree
}

// spots gives all levels of a tree that the table has, to be changed there.
func spots(path string, lines []line, trees *[]tree) []spot {
	list := []spot{{path, lines, trees}}
	for i := range *trees {
		e := &(*trees)[i]
		l, _ := lineOf(lines, e.node.Tag)
		for k := range e.items {
			list = append(list, spots(path+dict.PrintTag(e.node.Tag), l.items, &e.items[k])...)
		}
	}
	return list
}

// mend keeps the number of items right.
func mend(trees []tree) []tree {
	for i := range trees {
		trees[i].node.N = len(trees[i].items)
		for _, elements := range trees[i].items {
			mend(elements)
		}
	}
	return trees
}

func spotCount() int {
	top := topOf(rich())
	return len(spots("", topLines, &top))
}

// changedAt gives the rich data set with one of its levels changed.
func changedAt(k int, change func(s spot)) []api.Node {
	top := topOf(rich())
	change(spots("", topLines, &top)[k])
	return felled(mend(top))
}

// someTags are all tags of the table, and others, rising.
func someTags() []api.Tag {
	var tags []api.Tag
	var add func(lines []line)
	add = func(lines []line) {
		for _, l := range lines {
			tags = append(tags, l.tag)
			add(l.items)
		}
	}
	add(topLines)
	tags = append(tags, api.TagClass, api.TagInstance, api.TagCharset, api.TagReferrer, api.TagSteps, api.TagStationAE, api.TagStepStatus, 0x00090010, 0x00091001, 0x00400275, 0x60003000)
	slices.Sort(tags)
	return slices.Compact(tags)
}

func setsIn(trees *[]tree, tag api.Tag, e tree) {
	i, there := slices.BinarySearchFunc(*trees, tag, func(x tree, tag api.Tag) int { return int(x.node.Tag) - int(tag) })
	if there {
		(*trees)[i] = e
		return
	}
	*trees = slices.Insert(*trees, i, e)
}

// TestTableKnown: the dictionary knows all that the table has (so an element's VR is the one that its value is held against).
func TestTableKnown(t *testing.T) {
	if len(topLines) != 25 {
		t.Fatalf("the document has 25 attributes on the top level, not %d", len(topLines))
	}
	var look func(lines []line)
	look = func(lines []line) {
		for i, l := range lines {
			e, known := dict.Find(l.tag)
			if !known || (e.VR == api.VRSQ) != (len(l.items) > 0) || i > 0 && lines[i-1].tag >= l.tag {
				t.Errorf("%s", dict.PrintTag(l.tag))
			}
			look(l.items)
		}
	}
	look(topLines)
}

// TestPlacesStrange: every tag on every level, where the table has it, and where it does not.
func TestPlacesStrange(t *testing.T) {
	strange := 0
	for k := range spotCount() {
		for _, tag := range someTags() {
			known := false
			ds := changedAt(k, func(s spot) {
				_, known = lineOf(s.lines, tag)
				if !known {
					setsIn(s.trees, tag, tree{node: el(tag, "")})
				}
			})
			if known || dict.Formed(ds) != nil {
				continue
			}
			strange++
			wantCreate(t, dict.PrintTag(tag), ds, refused(0x0105, tag))
		}
	}
	if strange < 400 {
		t.Errorf("only %d", strange)
	}
}

// TestPlacesMissing: each attribute on each level, taken away and emptied.
func TestPlacesMissing(t *testing.T) {
	st := started(rich())
	sound(t, st)
	for k := range spotCount() {
		var lines []line
		var path string
		changedAt(k, func(s spot) { lines, path = s.lines, s.path })
		for _, l := range lines {
			name := path + dict.PrintTag(l.tag)
			gone := changedAt(k, func(s spot) {
				*s.trees = slices.DeleteFunc(*s.trees, func(e tree) bool { return e.node.Tag == l.tag })
			})
			empty := changedAt(k, func(s spot) { setsIn(s.trees, l.tag, tree{node: el(l.tag, "")}) })
			wantGone, wantEmpty := makes(api.PerfProgress, gone, modelMoves(scheduled(), gone, 1, 2)...), makes(api.PerfProgress, empty, modelMoves(scheduled(), empty, 1, 2)...)
			if l.create == "1" || l.create == "2" {
				wantGone = refused(0x0120, l.tag)
			}
			if l.create == "1" {
				wantEmpty = refused(0x0121, l.tag)
			}
			wantCreate(t, name+" missing", gone, wantGone)
			wantCreate(t, name+" empty", empty, wantEmpty)
			if path == "" {
				continue
			}
			// The same in a Set, which has only what may be set.
			for ds, want := range map[*[]api.Node]api.Verdict{&gone: wantGone, &empty: wantEmpty} {
				said := settable(*ds)
				if _, there := dict.Items(said, tagIn(path)); !there {
					continue
				}
				if want.Status == 0 {
					want = makes(api.PerfProgress, modelMerged(rich(), said))
				}
				wantSet(t, name, st, said, want)
			}
		}
	}
}

// settable has of a data set what a Set may say.
func settable(ds []api.Node) []api.Node {
	var kept []tree
	for _, e := range topOf(ds) {
		if l, ok := lineOf(topLines, e.node.Tag); ok && l.set != "-" {
			kept = append(kept, e)
		}
	}
	return felled(kept)
}

// tagIn is the top tag of a path.
func tagIn(path string) api.Tag {
	tag, err := dict.ParseTag(path[:11])
	if err != nil {
		panic(path)
	}
	return tag
}

// TestPlacesSet: on the top level a Set may have just what the table says, and nothing has to be there or be filled.
func TestPlacesSet(t *testing.T) {
	st := started(rich())
	for _, tag := range someTags() {
		ds := list(el(tag, ""))
		if dict.Formed(ds) != nil {
			t.Fatal(dict.PrintTag(tag))
		}
		l, known := lineOf(topLines, tag)
		switch {
		case !known || l.set == "-":
			wantSet(t, dict.PrintTag(tag), st, ds, refused(0x0105, tag))
		case tag == api.TagDoneStatus:
			wantSet(t, dict.PrintTag(tag), st, ds, refused(0x0121, tag))
		default:
			wantSet(t, dict.PrintTag(tag), st, ds, makes(api.PerfProgress, put(rich(), ds...)))
		}
	}
	strange := 0
	for k := range spotCount() {
		for _, tag := range someTags() {
			path := ""
			ds := changedAt(k, func(s spot) {
				if _, known := lineOf(s.lines, tag); !known {
					path = s.path
					setsIn(s.trees, tag, tree{node: el(tag, "")})
				}
			})
			said := settable(ds)
			if path == "" || dict.Formed(said) != nil {
				continue
			}
			if _, there := dict.Items(said, tagIn(path)); !there {
				continue
			}
			strange++
			wantSet(t, path+dict.PrintTag(tag), st, said, refused(0x0105, tag))
		}
	}
	if strange < 200 {
		t.Errorf("only %d", strange)
	}
}

// TestInsideStrange: what is inside of a sequence that may not be there is not looked at.
func TestInsideStrange(t *testing.T) {
	inside := holding(el(api.TagModality, "x"), el(api.TagReferrer, "X"), el(api.TagSteps, ""))
	wantCreate(t, "a strange sequence", put(plain("A1"), seq(api.TagSteps, inside)...), refused(0x0105, api.TagSteps))
	wantCreate(t, "a strange sequence in an item", put(plain("A1"), seq(api.TagProcedureCodes, holding(seq(api.TagProtocolCodes, inside)))...), refused(0x0105, api.TagProtocolCodes))
	st := started(plain("A1"))
	wantSet(t, "a strange sequence", st, seq(api.TagSteps, inside), refused(0x0105, api.TagSteps))
	wantSet(t, "one that may not be set", st, seq(api.TagStepAttributes, inside), refused(0x0105, api.TagStepAttributes))
	wantSet(t, "another one", st, seq(api.TagRefPatients, inside), refused(0x0105, api.TagRefPatients))
	// Behind it the walk goes on.
	ds := list(seq(api.TagRefPatients, inside), seq(api.TagStopReason, inside))
	wantSet(t, "both", st, ds, refused(0x0105, api.TagRefPatients, api.TagModality, api.TagReferrer, api.TagSteps))
	if v := mpps.Set(st, "1.9", seq(api.TagProcedureCodes, code("1"))); v.Status != 0 {
		t.Errorf("P14.3: codes: %s", shown(v))
	}
}
