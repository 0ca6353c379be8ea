package store_test

import (
	"bytes"
	"testing"

	"modality/api"
	"modality/store"
)

// What is handed in has spare room with something in it; what is handed out is written over, spare room included.

func roomySteps(steps ...api.Step) []api.Step {
	return append(append([]api.Step(nil), steps...), api.Step{ID: "room"})[:len(steps)]
}

func roomyPerf(p api.Perf) api.Perf {
	p.Data = append(append([]api.Node(nil), p.Data...), api.Node{Value: "room"})[:len(p.Data)]
	return p
}

func roomyState() api.State {
	return api.State{
		Control: "M", Steps: roomySteps(row("A"), rowOf("B", 2)),
		Perfs: append([]api.Perf{roomyPerf(perf("1.1", 1)), roomyPerf(perf("1.2", 2))}, api.Perf{UID: "room"})[:2],
	}
}

// roomKept: neither the state nor its spare room has changed.
func roomKept(t *testing.T, what string, st api.State) {
	t.Helper()
	want := roomyState()
	good := same(st, want) && st.Steps[:3][2].ID == "room" && st.Perfs[:3][2].UID == "room"
	for _, p := range st.Perfs {
		good = good && p.Data[:len(p.Data)+1][len(p.Data)].Value == "room"
	}
	if !good {
		t.Fatalf("DOC.md, Memory: %s has changed its argument: %s", what, shown(st))
	}
}

func smearSteps(list []api.Step) {
	for i := range list[:cap(list)] {
		list[:cap(list)][i].ID = "smeared"
	}
}

func smearNodes(list []api.Node) {
	for i := range list[:cap(list)] {
		list[:cap(list)][i].Value = "smeared"
	}
}

func smearState(st api.State) {
	smearSteps(st.Steps)
	for i := range st.Perfs[:cap(st.Perfs)] {
		p := &st.Perfs[:cap(st.Perfs)][i]
		smearNodes(p.Data)
		p.UID = "smeared"
	}
}

func smearMutation(m api.Mutation) {
	smearSteps(m.Steps)
	smearNodes(m.Perf.Data)
	for i := range m.IDs[:cap(m.IDs)] {
		m.IDs[:cap(m.IDs)][i] = "smeared"
	}
	for i := range m.Moves[:cap(m.Moves)] {
		m.Moves[:cap(m.Moves)][i].ID = "smeared"
	}
}

// roomyMutations are such as fit roomyState.
func roomyMutations() []api.Mutation {
	return []api.Mutation{
		putSteps("N", roomySteps(row("C"), row("D"))...), putSteps("N", roomySteps(row("A"))...),
		gone("N", append([]string{"A"}, "room")[:1]...), performed(roomyPerf(perf("1.1", 2)), append(moves(3, "B"), api.Move{ID: "room"})[:1]...), performed(roomyPerf(perf("1.3", 1)), append(moves(2, "A"), api.Move{ID: "room"})[:1]...),
	}
}

func mutationKept(t *testing.T, what string, m, want api.Mutation) {
	t.Helper()
	good := same(m, want)
	for _, s := range m.Steps[len(m.Steps):min(cap(m.Steps), len(m.Steps)+1)] {
		good = good && s.ID == "room"
	}
	for _, id := range m.IDs[len(m.IDs):min(cap(m.IDs), len(m.IDs)+1)] {
		good = good && id == "room"
	}
	for _, v := range m.Moves[len(m.Moves):min(cap(m.Moves), len(m.Moves)+1)] {
		good = good && v.ID == "room"
	}
	for _, n := range m.Perf.Data[len(m.Perf.Data):min(cap(m.Perf.Data), len(m.Perf.Data)+1)] {
		good = good && n.Value == "room"
	}
	if !good {
		t.Fatalf("DOC.md, Memory: %s has changed its argument: %s", what, shown(m))
	}
}

// TestArguments: nothing that is handed in is changed.
func TestArguments(t *testing.T) {
	for i, m := range roomyMutations() {
		want, st := roomyMutations()[i], roomyState()
		store.Formed(m)
		store.Sound(st)
		store.Base(st)
		store.Apply(st, m)
		if _, err := store.Encode(m); err != nil {
			t.Fatal(err)
		}
		roomKept(t, "a face", st)
		mutationKept(t, "a face", m, want)
		s, _ := storeIn(t, roomyState(), 10)
		puts(t, s, m)
		mutationKept(t, "Put", m, want)
	}
}

// TestApplyMemory: Apply's answer shares nothing with its arguments, nor with another answer; nor do its lists with one another.
func TestApplyMemory(t *testing.T) {
	for i := range roomyMutations() {
		st, m := roomyState(), roomyMutations()[i]
		want, flaw := modelApply(st, m)
		if flaw != taken {
			t.Fatal(flaw)
		}
		first, _ := store.Apply(st, m)
		second, _ := store.Apply(st, m)
		smearState(first)
		roomKept(t, "who writes into Apply's answer", st)
		mutationKept(t, "who writes into Apply's answer", m, roomyMutations()[i])
		smearState(st)
		smearMutation(m)
		if !same(second, want) {
			t.Fatalf("DOC.md, Memory: Apply's answer is shared: %s", shown(second))
		}
		perfsApart(t, second.Perfs)
	}
}

// perfsApart: the data sets of a list lie in memory of their own.
func perfsApart(t *testing.T, list []api.Perf) {
	t.Helper()
	for i, p := range list {
		smearNodes(p.Data)
		for _, q := range list[i+1:] {
			for _, n := range q.Data {
				if n.Value == "smeared" {
					t.Fatal("DOC.md, Memory: two data sets share memory")
				}
			}
		}
	}
}

func TestBaseMemory(t *testing.T) {
	st := roomyState()
	first, _ := store.Base(st)
	second, _ := store.Base(st)
	want, _ := store.Base(roomyState())
	for i, m := range first {
		smearMutation(m)
		if !same(first[i+1:], want[i+1:]) {
			t.Fatal("DOC.md, Memory: two mutations of a base share memory")
		}
	}
	roomKept(t, "who writes into Base's answer", st)
	smearState(st)
	if !same(second, want) {
		t.Fatal("DOC.md, Memory: Base's answer is shared")
	}
}

func TestRecordMemory(t *testing.T) {
	for i, m := range corpus() {
		first, second := encoded(t, m), encoded(t, m)
		for k := range first[:cap(first)] {
			first[:cap(first)][k] = '#'
		}
		smearMutation(m)
		want := byHand(t, corpus()[i]).bytes
		if !bytes.Equal(second, want) {
			t.Fatal("DOC.md, Memory: Encode's answer is shared")
		}
		a, _ := store.Decode(second)
		b, _ := store.Decode(second)
		smearMutation(a)
		for k := range second[:cap(second)] {
			second[:cap(second)][k] = '#'
		}
		if !same(b, corpus()[i]) {
			t.Fatal("DOC.md, Memory: Decode's answer is shared")
		}
	}
}

// TestStoreMemory: a store keeps nothing that it is given, and gives out nothing that it keeps.
func TestStoreMemory(t *testing.T) {
	for i := range roomyMutations() {
		s, d := storeIn(t, roomyState(), 10)
		m := roomyMutations()[i]
		want, _ := modelApply(roomyState(), m)
		puts(t, s, m)
		smearMutation(m)
		stateIs(t, "DOC.md, Memory: Put keeps its argument", s, want)
		first, second := s.State(), s.State()
		smearState(first)
		steps := s.Steps()
		smearSteps(steps)
		for _, p := range want.Perfs {
			got, ok := s.Perf(p.UID)
			if !ok || !same(got, p) {
				t.Fatalf("P12.12: %s: %v", p.UID, ok)
			}
			smearNodes(got.Data)
		}
		if !same(second, want) {
			t.Fatal("DOC.md, Memory: two states share memory")
		}
		perfsApart(t, second.Perfs)
		stateIs(t, "DOC.md, Memory: who writes into an answer", s, want)
		copyTells(t, "P12.13", d, want)
	}
}

func TestOrderMemory(t *testing.T) {
	for _, o := range []api.Order{
		{Control: "N", Verb: api.OrderNew, Steps: roomySteps(rowOf("D", 4), rowOf("C", 0))}, {Control: "N", Verb: api.OrderChange, Steps: roomySteps(rowOf("A", 3))},
		{Control: "N", Verb: api.OrderCancel, IDs: append([]string{"B", "A"}, "room")[:2]},
	} {
		s, _ := storeIn(t, api.State{Control: "M", Steps: rows("A", "B")}, 10)
		m := api.Mutation{Steps: o.Steps, IDs: o.IDs}
		kept := api.Mutation{Steps: append([]api.Step(nil), o.Steps...), IDs: append([]string(nil), o.IDs...)}
		acks(t, s, o, "AA", "")
		mutationKept(t, "Order", m, kept)
		want := s.State()
		smearMutation(m)
		stateIs(t, "DOC.md, Memory: Order keeps its argument", s, want)
	}
}

// TestTold: P12.12: the state, its steps, and the performed step of a UID.
func TestTold(t *testing.T) {
	for _, st := range smallStates() {
		s, _ := storeIn(t, st, 10)
		stateIs(t, "P12.12", s, st)
		if got := s.Steps(); !same(got, st.Steps) {
			t.Fatalf("P12.12: %s, not %s", shown(got), shown(st.Steps))
		}
		for _, uid := range []string{"1.1", "1.2", "1.3", "", "A", "1.1\x00"} {
			var want api.Perf
			i := perfAt(st, uid)
			if i >= 0 {
				want = st.Perfs[i]
			}
			if got, ok := s.Perf(uid); ok != (i >= 0) || !same(got, want) {
				t.Fatalf("P12.12: %q: %v, %s", uid, ok, shown(got))
			}
		}
	}
	s := opens(t, newDisk(t, 10), 1)
	if s.Steps() != nil || s.State().Steps != nil || s.State().Perfs != nil {
		t.Error("DOC.md: a list without an element is not nil")
	}
	puts(t, s, putSteps("M", row("A")), gone("N", "A"))
	if s.Steps() != nil || s.State().Steps != nil {
		t.Error("DOC.md: a list without an element is not nil")
	}
	if st, err := store.Apply(api.State{Steps: []api.Step{}, Perfs: []api.Perf{}}, performed(perf("1", 1))); err != nil || st.Steps != nil {
		t.Errorf("DOC.md: %v, %s", err, shown(st))
	}
}
