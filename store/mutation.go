package store

import "modality/api"

// The fields of a mutation, by their numbers.
const (
	inKind = iota
	inControl
	inSteps
	inIDs
	inPerf
	inMoves
	fieldCount
)

// Formed tells whether a mutation may be, whatever the state (P12.2).
func Formed(m api.Mutation) error {
	for field := range fieldCount {
		if !fieldFits(m, field) {
			return refusal(field, api.ErrStoreMutation)
		}
	}
	return nil
}

// fieldFits tells whether a field is what the kind uses, or zero if it uses none.
func fieldFits(m api.Mutation, field int) bool {
	switch field {
	case inKind:
		return within(m.Kind, api.MStep, api.MBase)
	case inControl:
		return controlFits(m.Control) && (m.Kind != api.MPerf || m.Control == "")
	case inSteps:
		return fitsOrNone(m.Steps, m.Kind == api.MStep, groupFits)
	case inIDs:
		return fitsOrNone(m.IDs, m.Kind == api.MGone, idsFit)
	case inPerf:
		return m.Kind == api.MPerf && perfFits(m.Perf) || m.Kind != api.MPerf && isNoPerf(m.Perf)
	}
	return fitsOrNone(m.Moves, m.Kind == api.MPerf, movesFit)
}

func fitsOrNone[T any](list []T, used bool, fits func([]T) bool) bool {
	return used && fits(list) || !used && len(list) == 0
}

func controlFits(control string) bool {
	return len(control) <= api.MaxControl && isPlain(control)
}

func groupFits(steps []api.Step) bool {
	return within(len(steps), 1, api.MaxGroup) && stepsFit(steps)
}

func stepsFit(steps []api.Step) bool {
	return rises(steps, stepID) && every(steps, rowFits)
}

func idsFit(ids []string) bool {
	return within(len(ids), 1, api.MaxGroup) && rises(ids, itself) && every(ids, idFits)
}

func movesFit(moves []api.Move) bool {
	return within(len(moves), 0, api.MaxSteps) && rises(moves, moveID) && every(moves, moveFits)
}

// moveFits: no move leads to a step that is only scheduled.
func moveFits(m api.Move) bool {
	return idFits(m.ID) && within(m.Status, api.StepStarted, api.StepDiscontinued)
}

func stepID(s api.Step) string { return s.ID }

func moveID(m api.Move) string { return m.ID }

func perfUID(p api.Perf) string { return p.UID }

func itself(id string) string { return id }

// rises tells whether the keys of a list rise strictly, byte by byte.
func rises[T any](list []T, key func(T) string) bool {
	for i := 1; i < len(list); i++ {
		if key(list[i-1]) >= key(list[i]) {
			return false
		}
	}
	return true
}

func every[T any](list []T, fits func(T) bool) bool {
	for _, x := range list {
		if !fits(x) {
			return false
		}
	}
	return true
}

// within tells whether a number keeps to its limits.
func within(n, least, most int) bool {
	return n == max(least, min(n, most))
}
