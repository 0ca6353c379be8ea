package store_test

import (
	"math"
	"math/rand/v2"
	"testing"

	"modality/api"
	"modality/store"
)

// TestZeroStore: a store that Open did not give.
func TestZeroStore(t *testing.T) {
	var none *store.Store
	for _, s := range []*store.Store{none, {}, new(store.Store)} {
		for _, m := range []api.Mutation{{}, whole(api.MStep), whole(api.MPerf)} {
			refused(t, "DOC.md: Put", s.Put(m), 0, api.ErrZero)
		}
		for _, o := range []api.Order{{}, {Control: "M", Verb: 1, Steps: rows("A")}, {Code: "AE", Words: "x"}} {
			code, words, err := s.Order(o)
			if code != "" || words != "" || !is(err, api.ErrZero, 0) {
				t.Errorf("DOC.md: Order: %q, %q, %v", code, words, err)
			}
		}
		refused(t, "DOC.md: Compact", s.Compact(), 0, api.ErrZero)
		if p, ok := s.Perf("1.1"); ok || !same(p, api.Perf{}) || s.Steps() != nil || !same(s.State(), api.State{}) {
			t.Error("DOC.md: a plain store tells something")
		}
		if s != nil && !same(*s, store.Store{}) {
			t.Error("DOC.md: a plain store was changed")
		}
	}
}

// refusals calls every face with what it refuses, each reason once.
func refusals(t *testing.T) []error {
	var none *store.Store
	off, d := storeIn(t, api.State{}, 1)
	d.Fuse(0)
	full := tight(t)
	_, encode := store.Encode(api.Mutation{})
	_, form := store.Decode(nil)
	_, unformed := store.Decode(byHand(t, gone("M")).bytes)
	_, state := store.Apply(api.State{Control: "\n"}, api.Mutation{})
	_, mutation := store.Apply(api.State{}, api.Mutation{})
	_, replay := store.Apply(api.State{}, based(""))
	_, base := store.Base(api.State{Control: "\n"})
	_, compact := store.Open(nil, 0)
	_, disk := store.Open(nil, 1)
	_, wrong := store.Open(slotDisk(t, 1, [][]byte{{9}}, nil), 1)
	_, misplaced := store.Open(slotDisk(t, 1, nil, [][]byte{encoded(t, based(""))}), 1)
	first := off.Put(putSteps("M", row("A")))
	_, _, later := off.Order(api.Order{})
	_, _, zero := none.Order(api.Order{})
	return []error{
		store.Row(api.Step{}), store.Formed(api.Mutation{}), encode, form, unformed, store.Sound(api.State{Control: "\n"}), state, mutation, replay, base,
		compact, disk, wrong, misplaced, none.Put(based("")), none.Compact(), zero, first, off.Put(based("")), later, off.Compact(),
		full.store.Put(full.next), full.store.Put(based("")), full.store.Put(api.Mutation{}),
	}
}

// TestFaults: each refusal is a new fault of this layer, so that nobody can change another's.
func TestFaults(t *testing.T) {
	seen := map[*api.Fault]int{}
	for range 2 {
		for i, err := range refusals(t) {
			f, ok := err.(*api.Fault)
			if !ok || f == nil || f.Layer != "store" {
				t.Fatalf("DOC.md, Errors: %d: %v", i, err)
			}
			if seen[f]++; seen[f] > 1 {
				t.Errorf("DOC.md, Errors: %d: a fault that was told before", i)
			}
			if g, ok := f.Err.(*api.Fault); ok {
				if g.Layer != "journal" || f.At != 1 {
					t.Errorf("DOC.md, Errors: %d: %v", i, err)
				}
			} else if n, ok := f.Err.(api.Errno); !ok || n != api.ErrZero && (n < 240 || n > 247) {
				t.Errorf("DOC.md, Errors: %d: %v", i, err)
			}
			f.Layer, f.At, f.Err = "changed", -1, nil
		}
	}
}

// TestHuge: what is far beyond every limit is refused in time, and nothing panics.
func TestHuge(t *testing.T) {
	steps, perfs, data := make([]api.Step, 1<<20), make([]api.Perf, 1<<20), make([]api.Node, 1<<20)
	for i := range data {
		data[i] = api.Node{Tag: api.TagItem, VR: api.VRItem, N: math.MaxInt}
	}
	text := long("x", 1<<24)
	s, _ := storeIn(t, api.State{}, 1)
	for _, kind := range []int{math.MinInt, -1, 0, 1, 2, 3, 4, 5, math.MaxInt} {
		for _, m := range []api.Mutation{
			{Kind: kind, Steps: steps}, {Kind: kind, IDs: make([]string, 1<<20)}, {Kind: kind, Moves: make([]api.Move, 1<<20)}, {Kind: kind, Control: text}, {Kind: kind, Steps: []api.Step{{ID: text}}}, {Kind: kind, Steps: []api.Step{{ID: "A", Status: kind, PatientName: text}}},
			{Kind: kind, Perf: api.Perf{UID: "1", State: kind, Data: data}}, {Kind: kind, Perf: api.Perf{UID: "1", State: 1, Data: []api.Node{{Tag: api.TagDoneStatus, VR: api.VRCS, Value: text, N: kind}}}}, {Kind: kind, Perf: api.Perf{UID: text, State: 1}},
		} {
			_, encode := store.Encode(m)
			_, apply := store.Apply(api.State{}, m)
			if store.Formed(m) == nil || encode == nil || apply == nil || s.Put(m) == nil {
				t.Errorf("P12.2: kind %d", kind)
			}
		}
		for _, o := range []api.Order{{Control: "M", Verb: kind, Steps: steps, IDs: make([]string, 1<<20)}, {Control: text, Verb: kind}, {Control: "M", Verb: kind, Steps: []api.Step{{ID: text}}, IDs: []string{text}}} {
			if code, _, err := s.Order(o); code == "AA" || err != nil {
				t.Errorf("P12.10: verb %d: %q, %v", kind, code, err)
			}
		}
	}
	for _, st := range []api.State{{Steps: steps}, {Perfs: perfs}, {Control: text}, {Perfs: []api.Perf{{UID: "1", State: 1, Data: data}}}} {
		if store.Sound(st) == nil {
			t.Error("P12.5: a huge state")
		}
	}
	for kind := range 6 {
		if _, err := store.Decode(append([]byte{byte(kind)}, make([]byte, 1<<24)...)); err == nil {
			t.Errorf("P12.4: kind %d", kind)
		}
	}
	stateIs(t, "DOC.md, Errors", s, api.State{})
}

// TestGarbage: whatever a data set's nodes are, the faces end.
func TestGarbage(t *testing.T) {
	rnd := rand.New(rand.NewPCG(1, 12))
	for range 20000 {
		var data []api.Node
		for range rnd.IntN(6) {
			data = append(data, api.Node{
				Tag: []api.Tag{api.TagDoneStatus, api.TagItem, api.TagSeries, api.TagModality, 0, math.MaxUint32, 0x00191010}[rnd.IntN(7)],
				VR:  api.VR(rnd.IntN(34) - 2), N: []int{0, 0, 0, 1, 2, -1, math.MaxInt}[rnd.IntN(7)], Value: []string{"", "", "IN PROGRESS", "x", "\x00"}[rnd.IntN(5)],
			})
		}
		p := api.Perf{UID: "1", State: rnd.IntN(5), Data: data}
		good := store.Formed(performed(p)) == nil
		if (store.Sound(api.State{Perfs: []api.Perf{p}}) == nil) != good {
			t.Fatalf("P12.5: %s", shown(p))
		}
		if b, err := store.Encode(performed(p)); (err == nil) != good || good && !same(b, byHand(t, performed(p)).bytes) {
			t.Fatalf("P12.3: %s: %v", shown(p), err)
		}
	}
}

// TestStoresApart: two stores have nothing in common.
func TestStoresApart(t *testing.T) {
	a, _ := storeIn(t, api.State{}, 1)
	b, _ := storeIn(t, api.State{}, 1)
	puts(t, a, putSteps("M", row("A")))
	puts(t, b, putSteps("N", row("B")), performed(perf("1", 1)))
	stateIs(t, "DOC.md", a, api.State{Control: "M", Steps: rows("A")})
	stateIs(t, "DOC.md", b, api.State{Control: "N", Steps: rows("B"), Perfs: []api.Perf{perf("1", 1)}})
}
