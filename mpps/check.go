package mpps

import (
	"modality/api"
	"modality/dataset"
)

// check is a status, and what tells whether a place is a reason for it.
type check struct {
	status  uint16
	offends func(place) bool
}

// contents are the checks of what a request says, by a column of the table.
func contents(column int) []check {
	return append([]check{
		{api.StNoSuch, func(p place) bool { return p.there && p.row.needs[column] == barred }},
		{api.StValue, func(p place) bool { return p.there && !p.row.mayBe(p.node) }},
	}, completeness(column)...)
}

// completeness are the checks of what has to be there, by a column of the table.
func completeness(column int) []check {
	return []check{
		{api.StMissing, func(p place) bool { return !p.there && mustBe(p.row.needs[column]) }},
		{api.StEmpty, func(p place) bool { return p.there && p.row.needs[column] == filled && isEmpty(p.node) }},
	}
}

func mustBe(need int) bool { return need == filled || need == given }

// examine goes through a data set check by check. The first that finds something is the verdict.
func examine(nodes []api.Node, checks []check) api.Verdict {
	rows := attributes()
	for _, c := range checks {
		w := walk{table: rows, offends: c.offends}
		w.through(atTop, nodes)
		if len(w.found) > 0 {
			return refusal(c.status, w.found...)
		}
	}
	return api.Verdict{Status: api.StSuccess}
}

// examineMerged tells whether a data set may be what a performed step comes to.
func examineMerged(nodes []api.Node) api.Verdict {
	word := statusWord(nodes)
	if word == "" {
		return refusal(api.StEmpty, api.TagDoneStatus)
	}
	if stateOf(word) != api.PerfProgress {
		if v := examine(nodes, completeness(atEnd)); v.Status != api.StSuccess {
			return v
		}
	}
	if isTooGreat(nodes) {
		return refusal(api.StLimit)
	}
	return api.Verdict{Status: api.StSuccess}
}

// isTooGreat tells whether a performed step can't have so much. (A size that can't be told is one, too.)
func isTooGreat(nodes []api.Node) bool {
	size, err := dataset.Size(nodes, api.Implicit)
	return err != nil || size > api.MaxRow || len(nodes) > api.MaxNodes-1
}
