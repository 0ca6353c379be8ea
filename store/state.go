package store

import "modality/api"

// The fields of a state, by their numbers.
const (
	ofControl = iota
	ofSteps
	ofPerfs
)

// Sound tells whether a server may have the state (P12.5).
func Sound(st api.State) error {
	switch {
	case !controlFits(st.Control):
		return refusal(ofControl, api.ErrStoreState)
	case len(st.Steps) > api.MaxSteps || !stepsFit(st.Steps):
		return refusal(ofSteps, api.ErrStoreState)
	case len(st.Perfs) > api.MaxPerfs || !perfsFit(st.Perfs):
		return refusal(ofPerfs, api.ErrStoreState)
	}
	return nil
}

func perfsFit(perfs []api.Perf) bool {
	return rises(perfs, perfUID) && every(perfs, perfFits)
}

// Apply gives the state behind a mutation (P12.6).
func Apply(st api.State, m api.Mutation) (api.State, error) {
	if err := Sound(st); err != nil {
		return api.State{}, err
	}
	if err := Formed(m); err != nil {
		return api.State{}, err
	}
	rows, b := tablesOf(st), bodyOf(m)
	if err := rows.check(b); err != nil {
		return api.State{}, err
	}
	rows.turn(b)
	return rows.state(), nil
}

// Base gives the mutations of a base (P12.7).
func Base(st api.State) ([]api.Mutation, error) {
	if err := Sound(st); err != nil {
		return nil, err
	}
	var list []api.Mutation
	for _, b := range tablesOf(st).bodies() {
		list = append(list, b.mutation())
	}
	return list, nil
}
