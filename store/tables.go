package store

import (
	"maps"
	"slices"

	"modality/api"
)

// noFlaw stands where the place of a flaw is told and there is none.
const noFlaw = -1

// tables are a state whose rows are found by their keys. All memory is their own.
type tables struct {
	control string
	steps   map[string]api.Step
	perfs   map[string]api.Perf
}

func newTables() *tables {
	return &tables{steps: map[string]api.Step{}, perfs: map[string]api.Perf{}}
}

// tablesOf gives the tables of a sound state.
func tablesOf(st api.State) *tables {
	t := newTables()
	t.turn(baseBody{st.Control})
	t.turn(stepsBody{st.Control, st.Steps})
	for _, p := range st.Perfs {
		t.turn(perfBody{perf: p})
	}
	return t
}

// turn makes a mutation that may be made; a base's beginning takes all rows away.
func (t *tables) turn(b body) {
	switch x := b.(type) {
	case stepsBody:
		t.control = x.control
		for _, s := range x.steps {
			t.steps[s.ID] = s
		}
	case goneBody:
		t.control = x.control
		for _, id := range x.ids {
			delete(t.steps, id)
		}
	case perfBody:
		t.perfs[x.perf.UID] = copyPerf(x.perf)
		for _, m := range x.moves {
			t.move(m)
		}
	case baseBody:
		t.control = x.control
		clear(t.steps)
		clear(t.perfs)
	}
}

func (t *tables) move(m api.Move) {
	s := t.steps[m.ID]
	s.Status = m.Status
	t.steps[m.ID] = s
}

// check refuses what may not be made of the state (P12.6).
func (t *tables) check(b body) error {
	if field := t.flaw(b); field != noFlaw {
		return refusal(field, api.ErrStoreReplay)
	}
	return nil
}

// flaw tells the first field of a mutation that does not fit the state.
func (t *tables) flaw(b body) int {
	switch x := b.(type) {
	case stepsBody:
		return t.flawOfSteps(x)
	case goneBody:
		return t.flawOfGone(x)
	case perfBody:
		return t.flawOfPerf(x)
	}
	return inKind
}

func (t *tables) flawOfSteps(x stepsBody) int {
	ids := idsOf(x.steps)
	areNew := t.count(ids) == 0 && t.room() >= len(ids)
	switch {
	case !t.isNext(x.control):
		return inControl
	case !every(x.steps, isScheduled), !areNew && !every(ids, t.awaits):
		return inSteps
	}
	return noFlaw
}

func (t *tables) flawOfGone(x goneBody) int {
	switch {
	case !t.isNext(x.control):
		return inControl
	case !every(x.ids, t.mayGo):
		return inIDs
	}
	return noFlaw
}

func (t *tables) flawOfPerf(x perfBody) int {
	old, there := t.perfs[x.perf.UID]
	switch {
	case there && old.State != api.PerfProgress:
		return inPerf
	case there && !t.allMove(x.moves, api.StepStarted, x.perf.State):
		return inMoves
	case !there && (x.perf.State != api.PerfProgress || len(t.perfs) >= api.MaxPerfs):
		return inPerf
	case !there && !t.allMove(x.moves, api.StepScheduled, x.perf.State):
		return inMoves
	}
	return noFlaw
}

// allMove tells whether each move leads a step from one status to the one that the performed step's state brings. A state that was there already brings none: nothing comes behind StepStarted by it.
func (t *tables) allMove(moves []api.Move, from, state int) bool {
	to := statusBehind(state)
	for _, m := range moves {
		if s, there := t.steps[m.ID]; !there || s.Status != from || m.Status != to || to == from {
			return false
		}
	}
	return true
}

// statusBehind tells the status of the steps that a performed step in this state is of.
func statusBehind(state int) int {
	return state - api.PerfProgress + api.StepStarted
}

// isNext tells whether a control ID is one that a message behind the last one may have.
func (t *tables) isNext(control string) bool {
	return control != "" && control != t.control
}

// room tells how many steps more there may be.
func (t *tables) room() int {
	return max(0, api.MaxSteps-len(t.steps))
}

// count tells how many of these IDs have a step.
func (t *tables) count(ids []string) int {
	n := 0
	for _, id := range ids {
		if _, there := t.steps[id]; there {
			n++
		}
	}
	return n
}

func isScheduled(s api.Step) bool { return s.Status == api.StepScheduled }

// awaits tells whether there is such a step, and nothing was done about it.
func (t *tables) awaits(id string) bool { return isScheduled(t.steps[id]) }

// mayGo tells whether there is such a step, and nobody is at work on it.
func (t *tables) mayGo(id string) bool {
	s, there := t.steps[id]
	return there && s.Status != api.StepStarted
}

func idsOf(steps []api.Step) []string {
	var ids []string
	for _, s := range steps {
		ids = append(ids, s.ID)
	}
	return ids
}

// bodies give the base that leads to the state.
func (t *tables) bodies() []body {
	list := []body{baseBody{t.control}}
	for _, s := range t.stepRows() {
		list = append(list, stepsBody{t.control, []api.Step{s}})
	}
	for _, p := range t.perfRows() {
		list = append(list, perfBody{perf: p})
	}
	return list
}

func (t *tables) state() api.State {
	return api.State{Steps: t.stepRows(), Perfs: t.perfRows(), Control: t.control}
}

func (t *tables) stepRows() []api.Step { return rising(t.steps) }

func (t *tables) perfRows() []api.Perf {
	list := rising(t.perfs)
	for i, p := range list {
		list[i] = copyPerf(p)
	}
	return list
}

// rising gives the rows in the order of their keys.
func rising[R any](rows map[string]R) []R {
	var list []R
	for _, key := range slices.Sorted(maps.Keys(rows)) {
		list = append(list, rows[key])
	}
	return list
}
