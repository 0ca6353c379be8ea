package store

import (
	"slices"

	"modality/api"
	"modality/dataset"
	"modality/dict"
)

// perfWords tell the states of a performed step in its data set, from PerfProgress on.
var perfWords = [...]string{"IN PROGRESS", "COMPLETED", "DISCONTINUED"}

func isNoPerf(p api.Perf) bool {
	return p.UID == "" && p.State == 0 && len(p.Data) == 0
}

// perfFits tells whether a performed step may be a row (P12.2).
func perfFits(p api.Perf) bool {
	return p.UID != "" && dict.Check(api.VRUI, p.UID) == nil &&
		within(p.State, api.PerfProgress, api.PerfDiscontinued) &&
		isKept(p.Data) && tells(p.Data, perfWords[p.State-api.PerfProgress])
}

// isKept tells whether a data set may be kept: what is laid down of it without its VRs is read as the same, and every answer that tells it has room for it.
func isKept(data []api.Node) bool {
	if len(data) > api.MaxNodes-1 || !every(data, mayBeKept) {
		return false
	}
	size, err := dataset.Size(data, api.Implicit)
	if err != nil || size > api.MaxRow {
		return false
	}
	implied, err := dataset.Implied(data)
	return err == nil && slices.Equal(implied, data)
}

// mayBeKept: texts are kept in one form, and what the row's UID says is not said twice.
func mayBeKept(n api.Node) bool {
	return n.Tag != api.TagCharset && n.Tag != api.TagClass && n.Tag != api.TagInstance
}

func tells(data []api.Node, word string) bool {
	status, there := dict.Value(data, api.TagDoneStatus)
	return there && status == word
}

func copyPerf(p api.Perf) api.Perf {
	p.Data = slices.Clone(p.Data)
	return p
}
