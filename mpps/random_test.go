package mpps_test

import (
	"fmt"
	"math/rand/v2"
	"slices"
	"testing"

	"modality/api"
	"modality/dict"
	"modality/mpps"
)

func one[T any](r *rand.Rand, list []T) T { return list[r.IntN(len(list))] }

// randomText is a value such as an element may have, or may not.
func randomText(r *rand.Rand, tag api.Tag) string {
	if v, ok := values[tag]; ok && r.IntN(4) > 0 {
		return one(r, one(r, [][]string{v.good, v.good, v.bad}))
	}
	return one(r, []string{"", "1", "1.2", "20260101", "A1", "A2", "x\ty"})
}

func randomElement(r *rand.Rand, tag api.Tag) tree {
	e := tree{node: api.Node{Tag: tag, VR: dict.Default(tag)}}
	if dict.Text(e.node.VR) {
		e.node.Value = dict.Trim(e.node.VR, randomText(r, tag))
	}
	if e.node.VR == api.VRSQ {
		for range r.IntN(3) {
			e.items = append(e.items, topOf(one(r, [][]api.Node{nil, code("1")[1:], reference("1", "2")[1:], about("A2")[1:], series("1.3")[1:]})))
		}
	}
	return e
}

// shake changes something somewhere.
func shake(r *rand.Rand, ds []api.Node) []api.Node {
	top := topOf(ds)
	s := one(r, spots("", topLines, &top))
	if len(*s.trees) == 0 || r.IntN(5) == 0 {
		tag := one(r, someTags())
		setsIn(s.trees, tag, randomElement(r, tag))
		return felled(mend(top))
	}
	i := r.IntN(len(*s.trees))
	e := &(*s.trees)[i]
	switch r.IntN(4) {
	case 0:
		*s.trees = slices.Delete(*s.trees, i, i+1)
	case 1:
		*e = tree{node: el(e.node.Tag, "")}
	case 2:
		*e = randomElement(r, e.node.Tag)
	default:
		e.items = append(e.items, slices.Clone(e.items)...)
	}
	return felled(mend(top))
}

// randomSet is a data set for a Create, or for a Set; seldom one that may be nowhere.
func randomSet(r *rand.Rand, create bool) []api.Node {
	ds := one(r, [][]api.Node{plain("A1"), plain("A2", "A4"), plain("A3", "Z", "A1"), rich()})
	if r.IntN(3) == 0 {
		ds = put(ds, el(api.TagComments, long("c", r.IntN(1024))))
	}
	if !create {
		ds = settable(ds)
		ds = put(ds, el(api.TagDoneStatus, one(r, []string{"IN PROGRESS", "IN PROGRESS", "COMPLETED", "DISCONTINUED"})))
		for range r.IntN(10) {
			ds = without(ds, one(r, topLines).tag)
		}
	}
	for range max(0, r.IntN(6)-2) {
		ds = shake(r, ds)
	}
	if len(ds) > 0 && r.IntN(30) == 0 {
		n := &ds[r.IntN(len(ds))]
		*n = one(r, []api.Node{{}, item(0), {Tag: n.Tag, VR: n.VR, N: n.N + 1, Value: n.Value}, {Tag: n.Tag, VR: n.VR, N: n.N, Value: n.Value + " "}, {Tag: n.Tag, VR: api.VRUN, Value: n.Value}})
	}
	return ds
}

// rows are data sets of performed steps in progress.
var rows = [][]api.Node{plain("A1"), rich(), odd(), plain("A2", "A4"), without(rich(), api.TagEndTime), padded(plain("A1"), 32700)}

func randomState(r *rand.Rand) api.State {
	st := api.State{Control: one(r, []string{"", "M1"})}
	for i := range r.IntN(6) {
		st.Steps = append(st.Steps, step(fmt.Sprint("A", i), 1+r.IntN(4)))
	}
	for i := range r.IntN(4) {
		p := perf(fmt.Sprint("1.", i), 1+r.IntN(8)/6, one(r, rows))
		if p.State != 1 {
			p.Data = put(p.Data, el(api.TagDoneStatus, "COMPLETED"))
		}
		st.Perfs = append(st.Perfs, p)
	}
	return st
}

func randomTags(r *rand.Rand) []api.Tag {
	var tags []api.Tag
	for range r.IntN(6) * r.IntN(6) {
		tag := one(r, topLines).tag
		if r.IntN(20) == 0 {
			tag = one(r, someTags())
		}
		tags = append(tags, tag)
	}
	return tags
}

// counts tells how often each status came.
type counts map[uint16]int

func (c counts) enough(t *testing.T, least int, statuses ...uint16) {
	t.Helper()
	for _, s := range statuses {
		if c[s] < least {
			t.Errorf("the test is too thin: %04x came %d times", s, c[s])
		}
	}
}

// TestRandom holds all faces against the document read another way.
func TestRandom(t *testing.T) {
	r := rand.New(rand.NewPCG(14, 1))
	created, set, got := counts{}, counts{}, counts{}
	for range 3000 {
		st := randomState(r)
		if !isSound(st) {
			t.Fatalf("the test's state is none: %s", shown(st))
		}
		uid := one(r, []string{"1.0", "1.1", "1.2", "1.3", "1.3", "1.3", "", "x"})
		ds := randomSet(r, true)
		want := modelCreate(st, uid, ds)
		created[want.Status]++
		if v := mpps.Create(st, uid, ds); !same(v, want) {
			t.Fatalf("P14.2: %s, not %s, of %s", shown(v), shown(want), shown(ds))
		}
		apply(t, st, want)
		ds, uid = randomSet(r, false), one(r, []string{"1.0", "1.0", "1.0", "1.1", "1.2"})
		want = modelSet(st, uid, ds)
		set[want.Status]++
		if v := mpps.Set(st, uid, ds); !same(v, want) {
			t.Fatalf("P14.3: %s, not %s, of %s", shown(v), shown(want), shown(ds))
		}
		apply(t, st, want)
		tags := randomTags(r)
		want = modelGet(st, uid, tags)
		got[want.Status]++
		if v := mpps.Get(st, uid, tags); !same(v, want) {
			t.Fatalf("P14.4: %s, not %s, of %08x", shown(v), shown(want), tags)
		}
	}
	created.enough(t, 40, 0, 0x0105, 0x0106, 0x0110, 0x0111, 0x0117, 0x0120, 0x0121)
	set.enough(t, 40, 0, 0x0105, 0x0106, 0x0110, 0x0112, 0x0120, 0x0121)
	set.enough(t, 10, 0x0213)
	got.enough(t, 40, 0, 0x0105, 0x0112)
}

// isOfForm tells whether a verdict is what every one is, whatever the state.
func isOfForm(v api.Verdict) bool {
	none := same(v.Change, api.Mutation{})
	switch {
	case v.Status != 0 && (!none || v.Data != nil), v.Status == 0 && v.Offending != nil:
		return false
	case v.ErrorId != 0 && !same(v, final), len(v.Offending) > 16 || v.Offending != nil && len(v.Offending) == 0:
		return false
	}
	return none || v.Data == nil && v.Change.Kind == api.MPerf && v.Change.Control == "" && v.Change.Steps == nil && v.Change.IDs == nil && v.Change.Perf.State >= 1 && v.Change.Perf.State <= 3
}

func randomNodes(r *rand.Rand) []api.Node {
	var nodes []api.Node
	for range r.IntN(8) {
		tag := one(r, append(someTags(), api.TagItem, api.TagItem, api.TagItem, api.TagItem, 0, 0xFFFFFFFF, api.TagDoneStatus, api.TagStepAttributes))
		n := api.Node{Tag: tag, VR: dict.Default(tag), N: one(r, []int{0, 0, 0, 1, 1, 2, -1, 1 << 62, -1 << 63}), Value: one(r, []string{"", "", "A1", "COMPLETED", "IN PROGRESS", " ", "\xff"})}
		if r.IntN(10) == 0 {
			n.VR = api.VR(r.IntN(33) - 2)
		}
		nodes = append(nodes, n)
	}
	return nodes
}

// TestGarbage: states and lists that nobody would make; every call ends, and answers a verdict.
func TestGarbage(t *testing.T) {
	r := rand.New(rand.NewPCG(14, 2))
	for range 6000 {
		var st api.State
		for range r.IntN(4) {
			st.Steps = append(st.Steps, api.Step{ID: one(r, []string{"", "A1", "A2", "\xff"}), Status: r.IntN(7) - 1})
		}
		for range r.IntN(4) {
			data := randomNodes(r)
			if r.IntN(3) == 0 {
				data = shake(r, plain("A1", ""))
			}
			st.Perfs = append(st.Perfs, api.Perf{UID: one(r, []string{"", "1", "x"}), State: r.IntN(6) - 1, Data: data})
		}
		uid, ds, create := one(r, []string{"", "1", "x", "2"}), randomNodes(r), randomNodes(r)
		if r.IntN(2) == 0 {
			ds, create = randomSet(r, false), randomSet(r, true)
		}
		for _, v := range []api.Verdict{mpps.Create(st, uid, create), mpps.Set(st, uid, ds), mpps.Set(st, "1", nil), mpps.Get(st, uid, randomTags(r)), mpps.Get(st, "1", nil)} {
			if !isOfForm(v) {
				t.Fatalf("%s of %s", shown(v), shown(st))
			}
		}
		if dict.Formed(create) != nil {
			wantVerdict(t, "no data set", mpps.Create(st, uid, create), refused(0x0110))
			wantVerdict(t, "no data set", mpps.Set(st, uid, create), refused(0x0110))
		}
	}
}

// TestGreatGarbage: lists that are long, deep, or say that they go on for ever.
func TestGreatGarbage(t *testing.T) {
	for _, n := range []api.Node{item(1), item(1 << 62), {Tag: api.TagSeries, VR: api.VRSQ, N: 1 << 62}, {Tag: api.TagSeries, VR: api.VRSQ, N: 2}, el(api.TagComments, "x"), {}} {
		nodes := slices.Repeat([]api.Node{n}, 200000)
		for _, data := range [][]api.Node{nodes, list(el(api.TagDoneStatus, "COMPLETED"), nodes), list(api.Node{Tag: api.TagSeries, VR: api.VRSQ, N: 1 << 62}, nodes)} {
			st := scheduled(perf("1.9", api.PerfProgress, data))
			for _, v := range []api.Verdict{mpps.Create(st, "1.9", data), mpps.Set(st, "1.9", data), mpps.Set(st, "1.9", nil), mpps.Set(st, "1.9", finish("COMPLETED")), mpps.Get(st, "1.9", []api.Tag{api.TagSeries}), mpps.Get(st, "1.9", nil)} {
				if !isOfForm(v) {
					t.Fatalf("%s", shown(v))
				}
			}
		}
	}
	tags := slices.Repeat([]api.Tag{api.TagModality, api.TagSex}, 1000000)
	wantVerdict(t, "P14.4: many tags", mpps.Get(started(plain("A1")), "1.9", tags), api.Verdict{Data: list(el(api.TagModality, "CT"), el(api.TagSex, ""))})
}
