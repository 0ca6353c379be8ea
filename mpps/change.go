package mpps

import (
	"slices"

	"modality/api"
	"modality/dict"
)

// created is what a new performed step changes.
func created(steps []api.Step, uid string, data []api.Node) api.Verdict {
	row := api.Perf{UID: uid, State: api.PerfProgress, Data: slices.Clone(data)}
	return changed(row, moves(steps, data, api.StepScheduled, api.StepStarted))
}

// advanced is what a performed step changes that goes on, perhaps to its end. (The data set is handed over.)
func advanced(steps []api.Step, uid string, data []api.Node) api.Verdict {
	row := api.Perf{UID: uid, State: stateOf(statusWord(data)), Data: data}
	switch row.State {
	case api.PerfCompleted:
		return changed(row, moves(steps, data, api.StepStarted, api.StepCompleted))
	case api.PerfDiscontinued:
		return changed(row, moves(steps, data, api.StepStarted, api.StepDiscontinued))
	}
	return changed(row, nil)
}

func changed(row api.Perf, list []api.Move) api.Verdict {
	return api.Verdict{Status: api.StSuccess, Change: api.Mutation{Kind: api.MPerf, Perf: row, Moves: list}}
}

// moves gives the steps that a performed step names and that have one status, with their new one.
func moves(steps []api.Step, data []api.Node, from, to int) []api.Move {
	names := stepNames(data)
	var list []api.Move
	for _, s := range steps {
		if s.Status == from && slices.Contains(names, s.ID) {
			list = append(list, api.Move{ID: s.ID, Status: to})
		}
	}
	return list
}

// stepNames gives the IDs of the scheduled steps that a data set is about.
func stepNames(data []api.Node) []string {
	var names []string
	items, _ := dict.Items(data, api.TagStepAttributes)
	for _, item := range items {
		if id, there := dict.Value(item, api.TagStepID); there {
			names = append(names, id)
		}
	}
	return names
}
