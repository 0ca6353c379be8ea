package store_test

import (
	"fmt"
	"sync"
	"testing"

	"modality/api"
	"modality/store"
)

func uids(n int) []string {
	var list []string
	for i := range n {
		list = append(list, fmt.Sprintf("1.2.%d", 1000+i))
	}
	return list
}

func perfs(n int) []api.Perf {
	var list []api.Perf
	for i, uid := range uids(n) {
		list = append(list, perf(uid, 1+i%3))
	}
	return list
}

// sounds are states and where they may not be; taken: they may.
func sounds() map[string]struct {
	st api.State
	at int
} {
	type x = struct {
		st api.State
		at int
	}
	wrong := row("A")
	wrong.Time = "0830"
	return map[string]x{
		"nothing": {api.State{}, taken}, "empty lists": {api.State{Steps: []api.Step{}, Perfs: []api.Perf{}}, taken},
		"all":                     {api.State{Control: "M", Steps: []api.Step{rowOf("A", 1), rowOf("B", 2), rowOf("C", 3), rowOf("D", 4)}, Perfs: perfs(3)}, taken},
		"steps without a control": {api.State{Steps: rows("A"), Perfs: perfs(1)}, taken}, "control alone": {api.State{Control: long("c", 20)}, taken},
		"long control": {api.State{Control: long("c", 21)}, 0}, "control byte": {api.State{Control: "\x7f"}, 0}, "control letter": {api.State{Control: "é"}, 0}, "control 0": {api.State{Control: "\x1f"}, 0},
		"256 steps": {api.State{Steps: rows(ids(256)...)}, taken}, "257 steps": {api.State{Steps: rows(ids(257)...)}, 1}, "many steps": {api.State{Steps: rows(ids(5000)...)}, 1},
		"falling steps": {api.State{Steps: rows("B", "A")}, 1}, "a step twice": {api.State{Steps: rows("A", "A")}, 1}, "falling at the end": {api.State{Steps: rows("A", "C", "B")}, 1}, "no row": {api.State{Steps: []api.Step{row("1"), wrong}}, 1}, "no status": {api.State{Steps: []api.Step{rowOf("A", 0)}}, 1}, "wrong first": {api.State{Steps: []api.Step{wrong, row("B")}}, 1},
		"256 performed": {api.State{Perfs: perfs(256)}, taken}, "257 performed": {api.State{Perfs: perfs(257)}, 2}, "falling performed": {api.State{Perfs: []api.Perf{perf("1.3", 1), perf("1.2", 1)}}, 2}, "by bytes": {api.State{Perfs: []api.Perf{perf("1.10", 1), perf("1.9", 1)}}, taken}, "by numbers": {api.State{Perfs: []api.Perf{perf("1.9", 1), perf("1.10", 1)}}, 2},
		"performed twice": {api.State{Perfs: []api.Perf{perf("1.2", 1), perf("1.2", 2)}}, 2}, "another's word": {api.State{Perfs: []api.Perf{{UID: "1", State: 1, Data: []api.Node{done(2)}}}}, 2}, "no UID": {api.State{Perfs: []api.Perf{perf("", 1)}}, 2}, "charset": {api.State{Perfs: []api.Perf{perf("1", 1), perf("2", 1, node(api.TagCharset, api.VRCS, ""))}}, 2},
		"control and steps": {api.State{Control: "\n", Steps: rows("B", "A")}, 0}, "steps and performed": {api.State{Steps: rows("B", "A"), Perfs: make([]api.Perf, 1)}, 1}, "control and performed": {api.State{Control: "\n", Perfs: make([]api.Perf, 1)}, 0},
	}
}

// TestSound: P12.5, and that Apply and Base refuse just so, ahead of everything else.
func TestSound(t *testing.T) {
	for name, x := range sounds() {
		want := api.ErrStoreState
		if x.at == taken {
			want = api.OK
		}
		if err := store.Sound(x.st); !is(err, want, x.at) {
			t.Errorf("P12.5: %s: %v", name, err)
		}
		list, err := store.Base(x.st)
		if !is(err, want, x.at) || (list == nil) != (err != nil) {
			t.Errorf("P12.7: %s: %d, %v", name, len(list), err)
		}
		if x.at == taken {
			continue
		}
		for _, m := range []api.Mutation{{}, based(""), putSteps("N", row("Z"))} {
			st, err := store.Apply(x.st, m)
			if !is(err, want, x.at) || !same(st, api.State{}) {
				t.Errorf("P12.6: %s: %v", name, err)
			}
		}
	}
}

// TestSoundPerfs: P12.5: a performed step may be in a state just where it may be in a mutation.
func TestSoundPerfs(t *testing.T) {
	for _, x := range perfTurns(t, api.MPerf) {
		m := whole(api.MPerf)
		x.make(&m)
		err := store.Sound(api.State{Perfs: []api.Perf{m.Perf}})
		if !is(err, map[bool]api.Errno{false: api.ErrStoreState}[x.good], 2) {
			t.Errorf("P12.5: %s: %v", x.name, err)
		}
	}
}

// applyIs: Apply against the second reading.
func applyIs(t *testing.T, st api.State, m api.Mutation) bool {
	got, err := store.Apply(st, m)
	want, flaw := modelApply(st, m)
	reason := api.ErrStoreReplay
	if flaw == taken {
		reason = api.OK
	}
	if !is(err, reason, flaw) || !same(got, want) {
		t.Errorf("P12.6: %s in %s: %v at %d, %v: %s", shown(m), shown(st), reason, flaw, err, shown(got))
		return false
	}
	if err == nil && store.Sound(got) != nil {
		t.Errorf("P12.6: %s in %s: a state that is not sound", shown(m), shown(st))
	}
	return true
}

// TestApplySmall: P12.6: every small mutation of every small state.
func TestApplySmall(t *testing.T) {
	muts := smallMutations()
	var wg sync.WaitGroup
	work := make(chan api.State)
	for range 8 {
		wg.Go(func() {
			for st := range work {
				for _, m := range muts {
					if !applyIs(t, st, m) {
						break
					}
				}
			}
		})
	}
	for _, st := range smallStates() {
		work <- st
	}
	close(work)
	wg.Wait()
}

// TestApplyFormed: P12.6: what Formed refuses, just so, ahead of what does not fit.
func TestApplyFormed(t *testing.T) {
	st := api.State{Control: "M1", Steps: rows("A1"), Perfs: []api.Perf{perf("1.2.3", 2)}}
	for kind := api.MStep; kind <= api.MBase; kind++ {
		for _, x := range turnsOf(t, kind) {
			m := whole(kind)
			x.make(&m)
			if x.good {
				applyIs(t, st, m)
				continue
			}
			if got, err := store.Apply(st, m); !is(err, api.ErrStoreMutation, x.field) || !same(got, api.State{}) {
				t.Fatalf("P12.6: kind %d, %s: %v", kind, x.name, err)
			}
		}
	}
	_, err := store.Apply(st, api.Mutation{})
	refused(t, "P12.6: a plain mutation", err, 0, api.ErrStoreMutation)
}

// TestApplyFull: P12.6: at the limits all is as below them; one past them is refused.
func TestApplyFull(t *testing.T) {
	for _, n := range []int{247, 248, 249, 255, 256} {
		st := api.State{Control: "M", Steps: rows(ids(n)...), Perfs: perfs(n)}
		for i := range 8 {
			applyIs(t, st, putSteps("N", rows(ids(300)[n:n+i+1]...)...))
			applyIs(t, st, putSteps("N", rows(ids(300)[n-1-i:n]...)...))
			applyIs(t, st, gone("N", ids(300)[n-1-i:n]...))
		}
		applyIs(t, st, performed(perf("1.1", 1)))
		applyIs(t, st, performed(perf("1.1", 2)))
		applyIs(t, st, performed(perf("1.2.1000", 2)))
		applyIs(t, st, performed(perf("1.2.1001", 2)))
		applyIs(t, st, performed(perf("1.1", 1), moves(2, ids(n)...)...))
	}
	_, err := store.Apply(api.State{Steps: rows(ids(256)...)}, putSteps("N", row("Z")))
	refused(t, "P12.6: 257 steps", err, 2, api.ErrStoreReplay)
	_, err = store.Apply(api.State{Perfs: perfs(256)}, performed(perf("9", 1)))
	refused(t, "P12.6: 257 performed steps", err, 4, api.ErrStoreReplay)
}

// TestBase: P12.7: the list, and that it is what leads to the state.
func TestBase(t *testing.T) {
	for name, x := range sounds() {
		if x.at != taken {
			continue
		}
		var want []api.Mutation
		want = append(want, based(x.st.Control))
		for _, s := range x.st.Steps {
			want = append(want, putSteps(x.st.Control, s))
		}
		for _, p := range x.st.Perfs {
			want = append(want, performed(p))
		}
		got, err := store.Base(x.st)
		if err != nil || !same(got, want) {
			t.Fatalf("P12.7: %s: %v, %s", name, err, shown(got))
		}
		if len(got) > api.MaxBase {
			t.Errorf("P12.7: %d", len(got))
		}
		for _, m := range got {
			if err := store.Formed(m); err != nil {
				t.Errorf("P12.7: %s: %v", shown(m), err)
			}
		}
		storeIn(t, sorted(x.st), 5)
	}
	most := api.State{Control: "M", Steps: rows(ids(256)...), Perfs: perfs(256)}
	if got, err := store.Base(most); err != nil || len(got) != 513 {
		t.Errorf("P12.7: %d, %v", len(got), err)
	}
}
