package store_test

import (
	"maps"
	"slices"
	"strings"

	"modality/api"
)

// A second reading of P12.6: over lists alone, sentence by sentence.

func cloneState(st api.State) api.State {
	st.Steps = slices.Clone(st.Steps)
	st.Perfs = slices.Clone(st.Perfs)
	for i := range st.Perfs {
		st.Perfs[i].Data = slices.Clone(st.Perfs[i].Data)
	}
	return st
}

func stepAt(st api.State, id string) int {
	return slices.IndexFunc(st.Steps, func(s api.Step) bool { return s.ID == id })
}

func perfAt(st api.State, uid string) int {
	return slices.IndexFunc(st.Perfs, func(p api.Perf) bool { return p.UID == uid })
}

// statusOf tells a step's status; 0: there is none.
func statusOf(st api.State, id string) int {
	if i := stepAt(st, id); i >= 0 {
		return st.Steps[i].Status
	}
	return 0
}

const taken = -1

// modelApply tells the state behind a mutation, or the field at which it is refused; both are such as Sound and Formed take.
func modelApply(st api.State, m api.Mutation) (api.State, int) {
	flaw := taken
	switch m.Kind {
	case api.MBase:
		flaw = 0
	case api.MStep:
		flaw = modelSteps(st, m)
	case api.MGone:
		flaw = modelGone(st, m)
	case api.MPerf:
		flaw = modelPerf(st, m)
	}
	if flaw != taken {
		return api.State{}, flaw
	}
	return modelMake(cloneState(st), m), taken
}

func modelSteps(st api.State, m api.Mutation) int {
	if m.Control == "" || m.Control == st.Control {
		return 1
	}
	have := map[int]int{}
	for _, s := range m.Steps {
		if s.Status != api.StepScheduled {
			return 2
		}
		have[statusOf(st, s.ID)]++
	}
	fresh := have[0] == len(m.Steps) && len(st.Steps)+len(m.Steps) <= api.MaxSteps
	changed := have[api.StepScheduled] == len(m.Steps)
	if !fresh && !changed {
		return 2
	}
	return taken
}

func modelGone(st api.State, m api.Mutation) int {
	if m.Control == "" || m.Control == st.Control {
		return 1
	}
	for _, id := range m.IDs {
		switch statusOf(st, id) {
		case 0, api.StepStarted:
			return 3
		}
	}
	return taken
}

func modelPerf(st api.State, m api.Mutation) int {
	i := perfAt(st, m.Perf.UID)
	isNew := i < 0
	if isNew && (m.Perf.State != api.PerfProgress || len(st.Perfs) == api.MaxPerfs) {
		return 4
	}
	if !isNew && st.Perfs[i].State != api.PerfProgress {
		return 4
	}
	for _, v := range m.Moves {
		now := statusOf(st, v.ID)
		good := false
		switch {
		case isNew:
			good = now == api.StepScheduled && v.Status == api.StepStarted
		case m.Perf.State == api.PerfCompleted:
			good = now == api.StepStarted && v.Status == api.StepCompleted
		case m.Perf.State == api.PerfDiscontinued:
			good = now == api.StepStarted && v.Status == api.StepDiscontinued
		}
		if !good {
			return 5
		}
	}
	return taken
}

func modelMake(st api.State, m api.Mutation) api.State {
	for _, s := range m.Steps {
		if i := stepAt(st, s.ID); i >= 0 {
			st.Steps[i] = s
		} else {
			st.Steps = append(st.Steps, s)
		}
	}
	st.Steps = slices.DeleteFunc(st.Steps, func(s api.Step) bool { return slices.Contains(m.IDs, s.ID) })
	for _, v := range m.Moves {
		st.Steps[stepAt(st, v.ID)].Status = v.Status
	}
	if m.Kind == api.MPerf {
		p := m.Perf
		p.Data = slices.Clone(p.Data)
		if i := perfAt(st, p.UID); i >= 0 {
			st.Perfs[i] = p
		} else {
			st.Perfs = append(st.Perfs, p)
		}
	} else {
		st.Control = m.Control
	}
	return sorted(st)
}

func sorted(st api.State) api.State {
	slices.SortFunc(st.Steps, func(a, b api.Step) int { return strings.Compare(a.ID, b.ID) })
	slices.SortFunc(st.Perfs, func(a, b api.Perf) int { return strings.Compare(a.UID, b.UID) })
	if len(st.Steps) == 0 {
		st.Steps = nil
	}
	if len(st.Perfs) == 0 {
		st.Perfs = nil
	}
	return st
}

// smallStates are all states with the steps A and B and the performed step 1.1, there or not, in whatever status, and another performed step beside.
func smallStates() []api.State {
	var list []api.State
	for _, control := range []string{"", "M"} {
		for a := range 5 {
			for b := range 5 {
				for p := range 4 {
					list = append(list, smallState(control, a, b, p))
				}
			}
		}
	}
	return list
}

func smallState(control string, a, b, p int) api.State {
	st := api.State{Control: control}
	if a > 0 {
		st.Steps = append(st.Steps, rowOf("A", a))
	}
	if b > 0 {
		st.Steps = append(st.Steps, rowOf("B", b))
	}
	if p > 0 {
		st.Perfs = append(st.Perfs, perf("1.1", p))
	}
	if b == 2 {
		st.Perfs = append(st.Perfs, perf("1.3", 1+a%3))
	}
	return st
}

// smallMutations are those that are about A, B, C and the performed steps 1.1 and 1.2.
func smallMutations() []api.Mutation {
	list := []api.Mutation{based(""), based("M"), based("N")}
	for _, control := range []string{"", "M", "N"} {
		for _, chosen := range choices([]string{"A", "B", "C"}, 3) {
			if len(chosen) == 0 {
				continue
			}
			list = append(list, putSteps(control, changed(chosen)...))
			if !slices.Contains(slices.Collect(maps.Values(chosen)), 2) {
				list = append(list, gone(control, slices.Sorted(maps.Keys(chosen))...))
			}
		}
	}
	for _, uid := range []string{"1.1", "1.2"} {
		for state := api.PerfProgress; state <= api.PerfDiscontinued; state++ {
			for _, chosen := range choices([]string{"A", "B", "C"}, 4) {
				list = append(list, performed(perf(uid, state, node(api.TagPatientID, api.VRLO, "new")), moved(chosen)...))
			}
		}
	}
	return list
}

// choices gives each key nothing or a number from 1 to most - 1, in all ways.
func choices(keys []string, most int) []map[string]int {
	list := []map[string]int{{}}
	for _, key := range keys {
		for _, m := range slices.Clone(list) {
			for n := 1; n < most; n++ {
				more := maps.Clone(m)
				more[key] = n
				list = append(list, more)
			}
		}
	}
	return list
}

// changed are rows that can be told from those of a state.
func changed(chosen map[string]int) []api.Step {
	var list []api.Step
	for _, id := range slices.Sorted(maps.Keys(chosen)) {
		s := rowOf(id, chosen[id])
		s.Desc = "new"
		list = append(list, s)
	}
	return list
}

func moved(chosen map[string]int) []api.Move {
	var list []api.Move
	for _, id := range slices.Sorted(maps.Keys(chosen)) {
		list = append(list, api.Move{ID: id, Status: chosen[id] + 1})
	}
	return list
}
