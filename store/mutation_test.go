package store_test

import (
	"fmt"
	"testing"

	"modality/api"
	"modality/dataset"
	"modality/dict"
	"modality/store"
)

// turn is a change of a mutation: which field it is of, whether that field may be so behind it.
type turn struct {
	name  string
	field int
	good  bool
	make  func(m *api.Mutation)
}

// whole gives a mutation of each kind that may be.
func whole(kind int) api.Mutation {
	switch kind {
	case api.MStep:
		return putSteps("M1", full("A1"), row("A2"))
	case api.MGone:
		return gone("M1", "A1", "A2")
	case api.MPerf:
		return performed(perf("1.2.3", api.PerfProgress), moves(api.StepStarted, "A1", "A2")...)
	}
	return based("M1")
}

func controlTurns(kind int) []turn {
	var list []turn
	for text, good := range map[string]bool{
		"": true, "M": true, " ~": true, long("c", 20): true, long("c", 21): false, "a\x1f": false, "\x7f": false, "é": false, "a\x00": false, "\n": false, long("c", 70000): false,
	} {
		good = good && (kind != api.MPerf || text == "")
		list = append(list, turn{fmt.Sprintf("control %.30q", text), 1, good, func(m *api.Mutation) { m.Control = text }})
	}
	return list
}

func stepTurns(kind int) []turn {
	wrong := func(id string) api.Step {
		s := row(id)
		s.Sex = "X"
		return s
	}
	var list []turn
	for name, x := range map[string]struct {
		good  bool
		steps []api.Step
	}{
		"none": {false, nil}, "no element": {false, []api.Step{}}, "one": {true, rows("A")}, "every status": {true, []api.Step{rowOf("A", 1), rowOf("B", 2), rowOf("C", 3), rowOf("D", 4)}},
		"eight": {true, rows(ids(8)...)}, "nine": {false, rows(ids(9)...)}, "many": {false, rows(ids(1000)...)},
		"falling": {false, rows("B", "A")}, "twice": {false, rows("A", "A")}, "falling at the end": {false, rows("A", "C", "B")}, "by bytes": {true, rows("A", "B", "a", "aa", "b")}, "not by length": {false, rows("B", "AA")},
		"no row": {false, []api.Step{{}}}, "wrong first": {false, []api.Step{wrong("A"), row("B")}}, "wrong last": {false, []api.Step{row("A"), wrong("B")}}, "no status": {false, []api.Step{rowOf("A", 0)}}, "great status": {false, []api.Step{rowOf("A", 5)}},
	} {
		good := x.good
		if kind != api.MStep {
			good = len(x.steps) == 0
		}
		list = append(list, turn{"steps " + name, 2, good, func(m *api.Mutation) { m.Steps = x.steps }})
	}
	return list
}

func idTurns(kind int) []turn {
	var list []turn
	for name, x := range map[string]struct {
		good bool
		ids  []string
	}{
		"none": {false, nil}, "no element": {false, []string{}}, "one": {true, []string{"A"}}, "eight": {true, ids(8)}, "nine": {false, ids(9)}, "many": {false, ids(1000)},
		"falling": {false, []string{"B", "A"}}, "twice": {false, []string{"A", "A"}}, "falling at the end": {false, []string{"A", "C", "B"}}, "by bytes": {true, []string{" B", "A", "a", "aa"}},
		"empty": {false, []string{""}}, "space": {false, []string{"A "}}, "backslash": {false, []string{"A\\B"}}, "letter": {false, []string{"é"}}, "control": {false, []string{"A", "B\t"}}, "long": {false, []string{long("A", 17)}}, "sixteen": {true, []string{long("A", 16)}},
	} {
		good := x.good
		if kind != api.MGone {
			good = len(x.ids) == 0
		}
		list = append(list, turn{"IDs " + name, 3, good, func(m *api.Mutation) { m.IDs = x.ids }})
	}
	return list
}

func moveTurns(kind int) []turn {
	var list []turn
	for name, x := range map[string]struct {
		good  bool
		moves []api.Move
	}{
		"none": {true, nil}, "no element": {true, []api.Move{}}, "one": {true, moves(2, "A")}, "all": {true, moves(4, ids(256)...)}, "one more": {false, moves(4, ids(257)...)},
		"every status": {true, []api.Move{{ID: "A", Status: 2}, {ID: "B", Status: 3}, {ID: "C", Status: 4}}},
		"falling":      {false, moves(2, "B", "A")}, "twice": {false, moves(2, "A", "A")}, "falling at the end": {false, moves(2, "A", "C", "B")}, "scheduled": {false, moves(1, "A")}, "no status": {false, moves(0, "A")}, "great status": {false, moves(5, "A")}, "negative": {false, moves(-1, "A")},
		"empty": {false, moves(2, "")}, "space": {false, moves(2, "A ")}, "letter": {false, moves(2, "A", "é")}, "long": {false, moves(2, long("A", 17))}, "wrong last": {false, append(moves(2, "A"), moves(1, "B")...)},
	} {
		good := x.good
		if kind != api.MPerf {
			good = len(x.moves) == 0
		}
		list = append(list, turn{"moves " + name, 5, good, func(m *api.Mutation) { m.Moves = x.moves }})
	}
	return list
}

// node is an element that is no sequence.
func node(tag api.Tag, v api.VR, value string) api.Node {
	return api.Node{Tag: tag, VR: v, Value: value}
}

// around gives a sequence with one item that has these elements, one level each.
func around(depth int, inside ...api.Node) []api.Node {
	count := len(inside)
	if depth > 1 {
		inside, count = around(depth-1, inside...), 1
	}
	return append([]api.Node{{Tag: 0x00400340, VR: api.VRSQ, N: 1}, {Tag: api.TagItem, VR: api.VRItem, N: count}}, inside...)
}

// sized is a performed step whose data set has so many bytes in Implicit.
func sized(t *testing.T, bytes int) api.Perf {
	t.Helper()
	p := perf("1.2", api.PerfProgress, node(0x00404000, api.VRUN, ""))
	have, err := dataset.Size(p.Data, api.Implicit)
	if err != nil {
		t.Fatal(err)
	}
	p.Data[1].Value = long("x", bytes-have)
	if n, err := dataset.Size(p.Data, api.Implicit); n != bytes || err != nil {
		t.Fatal(n, err)
	}
	return p
}

// crowded is a performed step whose data set has so many nodes: with 4095 it has more than MaxRow bytes already, so that bound is met first.
func crowded(nodes int) api.Perf {
	p := perf("1.2", api.PerfProgress, api.Node{Tag: 0x00400340, VR: api.VRSQ, N: nodes - 2})
	for len(p.Data) < nodes {
		p.Data = append(p.Data, api.Node{Tag: api.TagItem, VR: api.VRItem})
	}
	return p
}

func perfTurns(t *testing.T, kind int) []turn {
	p := func(state int, more ...api.Node) api.Perf { return perf("1.2", state, more...) }
	with := func(more []api.Node) api.Perf { q := p(1); q.Data = append(q.Data, more...); return q }
	var list []turn
	for name, x := range map[string]struct {
		good bool
		perf api.Perf
	}{
		"none": {false, api.Perf{}}, "no nodes": {false, api.Perf{UID: "1.2", State: 1}}, "empty list": {false, api.Perf{UID: "1.2", State: 1, Data: []api.Node{}}}, "list alone": {false, api.Perf{Data: []api.Node{}}},
		"UID alone": {false, api.Perf{UID: "1"}}, "state alone": {false, api.Perf{State: 1}}, "data alone": {false, api.Perf{Data: []api.Node{done(1)}}},
		"in progress": {true, p(1)}, "completed": {true, p(2)}, "discontinued": {true, p(3)},
		"no UID": {false, perf("", 1)}, "wrong UID": {false, perf("1.02", 1)}, "padded UID": {false, perf("1.2\x00", 1)}, "long UID": {false, perf(long("1", 65), 1)}, "longest UID": {true, perf(long("1", 64), 1)}, "two UIDs": {false, perf("1\\2", 1)},
		"state 0": {false, api.Perf{UID: "1", Data: []api.Node{done(1)}}}, "state 4": {false, api.Perf{UID: "1", State: 4, Data: []api.Node{done(3)}}}, "state -1": {false, api.Perf{UID: "1", State: -1, Data: []api.Node{done(1)}}},
		"another's word": {false, api.Perf{UID: "1", State: 1, Data: []api.Node{done(2)}}}, "no word": {false, api.Perf{UID: "1", State: 1, Data: []api.Node{node(api.TagDoneStatus, api.VRCS, "")}}},
		"without status": {false, api.Perf{UID: "1", State: 1, Data: []api.Node{node(api.TagModality, api.VRCS, "CT")}}}, "status in an item": {false, api.Perf{UID: "1", State: 1, Data: around(1, done(1))}},
		"two words": {false, api.Perf{UID: "1", State: 1, Data: []api.Node{node(api.TagDoneStatus, api.VRCS, `IN PROGRESS\IN PROGRESS`)}}}, "small letters": {false, api.Perf{UID: "1", State: 1, Data: []api.Node{node(api.TagDoneStatus, api.VRCS, "In Progress")}}},
		"values": {true, p(1, node(api.TagModality, api.VRCS, "ct"), node(api.TagPatientName, api.VRPN, "Ä^日本"))}, "not rising": {false, with([]api.Node{node(api.TagModality, api.VRCS, "CT")})}, "padded": {false, p(1, node(api.TagModality, api.VRCS, "CT "))},
		"charset": {false, p(1, node(api.TagCharset, api.VRCS, "ISO_IR 100"))}, "empty charset": {false, p(1, node(api.TagCharset, api.VRCS, ""))}, "class": {false, p(1, node(api.TagClass, api.VRUI, "1.2"))}, "instance": {false, p(1, node(api.TagInstance, api.VRUI, "1.2"))},
		"charset inside": {false, with(around(1, node(api.TagCharset, api.VRCS, "")))}, "class inside": {false, with(around(2, node(api.TagClass, api.VRUI, "1.2")))}, "instance deep inside": {false, with(around(4, node(api.TagInstance, api.VRUI, "1.2")))},
		"deep": {true, with(around(4, node(api.TagModality, api.VRCS, "CT")))}, "too deep": {false, with(around(5, node(api.TagModality, api.VRCS, "CT")))},
		"unknown": {true, p(1, node(0x00191010, api.VRUN, "ab"))}, "unknown text": {false, p(1, node(0x00191010, api.VRLO, "ab"))}, "unknown numbers": {false, p(1, node(0x00404000, api.VRUS, "ab"))}, "unknown empty text": {false, p(1, node(0x00404000, api.VRLO, ""))}, "odd": {false, p(1, node(0x00191010, api.VRUN, "abc"))},
		"creator": {true, p(1, node(0x00190010, api.VRLO, "abc"))}, "creator of another kind": {false, p(1, node(0x00190010, api.VRUN, "ab"))}, "unknown sequence": {true, p(1, api.Node{Tag: 0x00191010, VR: api.VRSQ})}, "another VR": {false, p(1, node(api.TagModality, api.VRSH, "CT"))},
		"4094 nodes": {true, crowded(4094)}, "4095 nodes": {false, crowded(4095)}, "4096 nodes": {false, crowded(4096)}, "4097 nodes": {false, crowded(4097)}, "greatest": {true, sized(t, api.MaxRow)}, "too great": {false, sized(t, api.MaxRow+2)},
		"an item missing": {false, with([]api.Node{{Tag: 0x00400340, VR: api.VRSQ, N: 1}})}, "huge": {false, api.Perf{UID: "1", State: 1, Data: make([]api.Node, 1<<20)}},
	} {
		good := x.good
		if kind != api.MPerf {
			good = same(x.perf, api.Perf{}) || same(x.perf, api.Perf{Data: []api.Node{}})
		}
		list = append(list, turn{"perf " + name, 4, good, func(m *api.Mutation) { m.Perf = x.perf }})
	}
	return list
}

func turnsOf(t *testing.T, kind int) []turn {
	return append(append(append(append(controlTurns(kind), stepTurns(kind)...), idTurns(kind)...), perfTurns(t, kind)...), moveTurns(kind)...)
}

// formedIs: Formed and Encode refuse just so, or neither does.
func formedIs(t *testing.T, what string, m api.Mutation, field int, good bool) {
	t.Helper()
	want := api.ErrStoreMutation
	if good {
		want = api.OK
	}
	if err := store.Formed(m); !is(err, want, field) {
		t.Fatalf("P12.2: kind %d, %s: %v, not %d at %d", m.Kind, what, err, want, field)
	}
	b, err := store.Encode(m)
	if !is(err, want, field) || (b == nil) != !good {
		t.Fatalf("P12.3: kind %d, %s: %d bytes, %v, not %d at %d", m.Kind, what, len(b), err, want, field)
	}
}

// TestFormedFields: P12.2: every change of every field of every kind.
func TestFormedFields(t *testing.T) {
	for kind := api.MStep; kind <= api.MBase; kind++ {
		formedIs(t, "as it is", whole(kind), 0, true)
		for _, x := range turnsOf(t, kind) {
			m := whole(kind)
			x.make(&m)
			formedIs(t, x.name, m, x.field, x.good)
		}
	}
}

// TestFormedFirst: P12.2: of two changes the first field that may not be is told.
func TestFormedFirst(t *testing.T) {
	for kind := api.MStep; kind <= api.MBase; kind++ {
		turns := turnsOf(t, kind)
		for _, x := range turns {
			for _, y := range turns {
				if x.field >= y.field || len(x.name)%3 != len(y.name)%3 {
					continue
				}
				m := whole(kind)
				x.make(&m)
				y.make(&m)
				field := y.field
				if !x.good {
					field = x.field
				}
				if err := store.Formed(m); !is(err, map[bool]api.Errno{false: api.ErrStoreMutation}[x.good && y.good], field) {
					t.Fatalf("P12.2: kind %d, %s and %s: %v", kind, x.name, y.name, err)
				}
			}
		}
	}
}

// TestFormedKind: P12.2: a kind that is none, whatever else there is.
func TestFormedKind(t *testing.T) {
	for _, kind := range []int{0, 5, -1, 255, 257, 260, 1 << 40, -1 << 62} {
		for like := api.MStep; like <= api.MBase; like++ {
			m := whole(like)
			m.Kind = kind
			formedIs(t, "another kind", m, 0, false)
		}
		formedIs(t, "nothing", api.Mutation{Kind: kind}, 0, false)
	}
	for kind, field := range map[int]int{api.MStep: 2, api.MGone: 3, api.MPerf: 4} {
		formedIs(t, "nothing", api.Mutation{Kind: kind}, field, false)
	}
	formedIs(t, "nothing", api.Mutation{Kind: api.MBase}, 0, true)
}

// TestFormedKept: P12.2: what Formed takes of a data set is read from Implicit as it was, whatever values it has.
func TestFormedKept(t *testing.T) {
	for e := range dict.Entries() {
		for v := api.VRAE; v <= api.VRUT; v++ {
			for _, tag := range []api.Tag{e.Tag, e.Tag + 0x30001, e.Tag | 0x10000} {
				for _, value := range []string{"", "ab", "abc", "ab ", "\x00\x00"} {
					keepsOrRefuses(t, node(tag, v, value))
				}
			}
		}
	}
}

func keepsOrRefuses(t *testing.T, n api.Node) {
	t.Helper()
	if n.Tag == api.TagDoneStatus {
		return
	}
	p := perf("1.2", api.PerfProgress, n)
	b, err := dataset.Encode(p.Data, api.Implicit)
	good := err == nil && n.Tag != api.TagCharset && n.Tag != api.TagClass && n.Tag != api.TagInstance
	if good {
		back, err := dataset.Decode(b, api.Implicit)
		good = err == nil && same(back, p.Data)
	}
	if got := store.Formed(performed(p)) == nil; got != good {
		t.Fatalf("P12.2: %v: %v", n, got)
	}
}
