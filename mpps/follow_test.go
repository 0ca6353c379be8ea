package mpps_test

import (
	"fmt"
	"math/rand/v2"
	"slices"
	"testing"

	"modality/api"
	"modality/charset"
	"modality/dataset"
	"modality/dict"
	"modality/disk"
	"modality/mpps"
	"modality/store"
)

// life is what was told of a performed step, as the one who asks remembers it.
type life struct {
	state   int
	created []tree
	said    map[api.Tag]tree // each top element of the last one that had it
}

// told is what the step's row must be.
func (l *life) told() []api.Node {
	var trees []tree
	for _, e := range l.said {
		trees = append(trees, e)
	}
	slices.SortFunc(trees, func(a, b tree) int { return int(a.node.Tag) - int(b.node.Tag) })
	return felled(trees)
}

func (l *life) hears(ds []api.Node) {
	for _, e := range topOf(ds) {
		l.said[e.node.Tag] = e
	}
}

// lives goes along with a run of requests.
type lives map[string]*life

// takes remembers a request whose verdict was success, and holds the verdict against what is promised.
func (all lives) takes(t *testing.T, uid string, ds []api.Node, v api.Verdict) {
	t.Helper()
	l, there := all[uid]
	if !there {
		l = &life{state: api.PerfProgress, created: topOf(ds), said: map[api.Tag]tree{}}
		all[uid] = l
		if v.Change.Perf.State != api.PerfProgress {
			t.Fatalf("P14.6: created as %d", v.Change.Perf.State)
		}
	}
	if l.state != api.PerfProgress {
		t.Fatalf("P14.6: a change behind the end: %s", shown(v))
	}
	l.hears(ds)
	if v.Change.Kind != 0 {
		l.state = v.Change.Perf.State
	}
	if missing, empty := modelEnd(v.Change.Perf.Data); l.state != api.PerfProgress && (missing != nil || empty != nil) {
		t.Fatalf("P14.8: ended without %08x, and with %08x empty", missing, empty)
	}
}

// hold tells whether a state's rows are what was said.
func (all lives) hold(t *testing.T, st api.State) {
	t.Helper()
	if len(st.Perfs) != len(all) {
		t.Fatalf("P14.6: %d rows, not %d", len(st.Perfs), len(all))
	}
	for _, p := range st.Perfs {
		l := all[p.UID]
		if l == nil || p.State != l.state || !same(p.Data, l.told()) {
			t.Fatalf("P14.6, P14.9: the row %s", shown(p))
		}
		for _, line := range topLines {
			now, is := pickTree(topOf(p.Data), line.tag)
			first, was := pickTree(l.created, line.tag)
			if line.set == "-" && (is != was || !same(now, first)) {
				t.Fatalf("P14.7: %s has changed", dict.PrintTag(line.tag))
			}
		}
	}
}

// wantGet: a Get tells what was said, all of it or the tags that are asked for.
func (all lives) wantGet(t *testing.T, r *rand.Rand, st api.State, uid string) {
	t.Helper()
	l := all[uid]
	if l == nil {
		wantVerdict(t, "P14.9", mpps.Get(st, uid, nil), refused(0x0112))
		return
	}
	wantVerdict(t, "P14.9", mpps.Get(st, uid, nil), api.Verdict{Data: l.told()})
	tag := one(r, topLines).tag
	var want []api.Node
	if e, ok := l.said[tag]; ok {
		want = felled([]tree{e})
	}
	wantVerdict(t, "P14.9: "+dict.PrintTag(tag), mpps.Get(st, uid, []api.Tag{tag}), api.Verdict{Data: want})
}

// wantStay: behind its end each Set of a performed step is refused.
func (all lives) wantStay(t *testing.T, st api.State, uid string, ds []api.Node) {
	t.Helper()
	if l := all[uid]; l != nil && l.state != api.PerfProgress && dict.Formed(ds) == nil {
		wantVerdict(t, "P14.6", mpps.Set(st, uid, ds), final)
	}
	if all[uid] != nil && dict.Formed(ds) == nil {
		wantVerdict(t, "P14.6: created twice", mpps.Create(st, uid, ds), refused(0x0111))
	}
}

// wantTwice: the same Set once more, while the step is in progress, changes nothing more.
func wantTwice(t *testing.T, st api.State, uid string, ds []api.Node, first api.Verdict) {
	t.Helper()
	again := mpps.Set(st, uid, ds)
	wantVerdict(t, "P14.10: twice", again, first)
	if behind := apply(t, st, again); !same(behind, st) {
		t.Fatalf("P14.10: %s, not %s", shown(behind), shown(st))
	}
}

// TestRuns: requests of any kind one behind the other, each change applied.
func TestRuns(t *testing.T) {
	r := rand.New(rand.NewPCG(14, 3))
	ended, twice := 0, 0
	for range 120 {
		st := api.State{Control: "M1"}
		for i := range 5 {
			st.Steps = append(st.Steps, step(fmt.Sprint("A", i), 1+r.IntN(10)/8))
		}
		all := lives{}
		for range 25 {
			uid := fmt.Sprint("1.", r.IntN(3))
			create := all[uid] == nil || r.IntN(6) == 0
			ds := randomSet(r, create)
			ask := mpps.Set
			if create {
				ask = mpps.Create
			}
			v := ask(st, uid, ds)
			st = apply(t, st, v)
			if v.Status == 0 {
				all.takes(t, uid, ds, v)
			}
			if v.Status == 0 && !create && all[uid].state == api.PerfProgress {
				twice++
				wantTwice(t, st, uid, ds, v)
			}
			all.hold(t, st)
			all.wantGet(t, r, st, uid)
			all.wantStay(t, st, uid, ds)
		}
		for _, l := range all {
			if l.state != api.PerfProgress {
				ended++
			}
		}
	}
	if ended < 50 || twice < 300 {
		t.Errorf("the test is too thin: %d ended, %d twice", ended, twice)
	}
}

// TestRunStore: the same over a store: each change is one that Put takes, and it is there behind a new start.
func TestRunStore(t *testing.T) {
	d, err := disk.New(api.DiskConfig{Blocks: 4000, Names: 2})
	if err != nil {
		t.Fatal(err)
	}
	s, err := store.Open(d, 10)
	if err != nil {
		t.Fatal(err)
	}
	if code, _, err := s.Order(api.Order{Control: "M1", Verb: api.OrderNew, Steps: []api.Step{step("A1", 1), step("A2", 1), step("A3", 1)}}); code != "AA" || err != nil {
		t.Fatal(code, err)
	}
	r := rand.New(rand.NewPCG(14, 4))
	all, puts := lives{}, 0
	for range 400 {
		uid := fmt.Sprint("1.", r.IntN(20))
		ds, ask := randomSet(r, all[uid] == nil), mpps.Set
		if all[uid] == nil {
			ask = mpps.Create
		}
		v := ask(s.State(), uid, ds)
		if v.Status == 0 {
			all.takes(t, uid, ds, v)
		}
		if v.Change.Kind != 0 {
			puts++
			if err := s.Put(v.Change); err != nil {
				t.Fatalf("P14.5: %v: %s", err, shown(v))
			}
		}
	}
	all.hold(t, s.State())
	again, err := store.Open(d, 10)
	if err != nil {
		t.Fatal(err)
	}
	all.hold(t, again.State())
	if puts < 50 {
		t.Errorf("only %d changes", puts)
	}
}

// TestSteps: along a Create and its end the steps go with it, each step once.
func TestSteps(t *testing.T) {
	st := api.State{Steps: []api.Step{step("A1", 1), step("A2", 1), step("A3", 2)}}
	statuses := func() []int { return []int{st.Steps[0].Status, st.Steps[1].Status, st.Steps[2].Status} }
	for i, want := range [][]int{{2, 1, 2}, {2, 2, 2}, {3, 2, 2}, {3, 4, 2}} {
		v := []func() api.Verdict{
			func() api.Verdict { return mpps.Create(st, "1.1", plain("A1")) },
			func() api.Verdict { return mpps.Create(st, "1.2", plain("A1", "A2")) },
			func() api.Verdict { return mpps.Set(st, "1.1", finish("COMPLETED")) },
			func() api.Verdict { return mpps.Set(st, "1.2", finish("DISCONTINUED")) },
		}[i]()
		if v.Status != 0 {
			t.Fatalf("%d: %s", i, shown(v))
		}
		if st = apply(t, st, v); !same(statuses(), want) {
			t.Fatalf("P14.5: %d: %v, not %v", i, statuses(), want)
		}
	}
}

// travelled sends a data set through a character set and a syntax; false, if it can't go so.
func travelled(ds []api.Node, set string, syntax api.Syntax) ([]api.Node, bool) {
	implied, err := dataset.Implied(ds)
	if err != nil || !same(implied, ds) {
		return nil, false
	}
	sent, err := charset.Express(ds, set)
	if err != nil {
		return nil, false
	}
	b, err := dataset.Encode(sent, syntax)
	if err != nil {
		return nil, false
	}
	came, err := dataset.Decode(b, syntax)
	if err != nil {
		return nil, false
	}
	came, err = charset.Unify(came)
	return came, err == nil
}

// TestBytes: how a request stands as bytes turns nothing.
func TestBytes(t *testing.T) {
	r := rand.New(rand.NewPCG(14, 5))
	went := 0
	for range 300 {
		st := randomState(r)
		create, set := randomSet(r, true), randomSet(r, false)
		for _, name := range []string{"", "ISO_IR 100", "ISO_IR 192"} {
			for _, syntax := range []api.Syntax{api.Implicit, api.Explicit} {
				if came, ok := travelled(create, name, syntax); ok {
					went++
					wantVerdict(t, "P14.10: in "+name, mpps.Create(st, "1.7", came), mpps.Create(st, "1.7", create))
				}
				if came, ok := travelled(set, name, syntax); ok {
					went++
					wantVerdict(t, "P14.10: in "+name, mpps.Set(st, "1.0", came), mpps.Set(st, "1.0", set))
				}
			}
		}
	}
	if went < 1000 {
		t.Errorf("only %d went", went)
	}
}
