package mpps

import (
	"modality/api"
	"modality/dict"
	"modality/value"
)

// The words of a performed step's states.
const (
	wordProgress     = "IN PROGRESS"
	wordCompleted    = "COMPLETED"
	wordDiscontinued = "DISCONTINUED"
)

// mayBe tells whether an element may have its value. A sequence has none: its items' elements are looked at each for itself.
func (a attribute) mayBe(n api.Node) bool {
	if n.VR == api.VRSQ {
		return true
	}
	return dict.Fits(n.Tag, n.VR, n.Value) == nil && (n.Value == "" || a.holds == nil || a.holds(n.Value))
}

// isDay is asked of single values: every day in the table has just one.
func isDay(text string) bool {
	_, err := value.ParseDate(text)
	return err == nil
}

// isTime is asked of single values, as isDay is.
func isTime(text string) bool {
	_, err := value.ParseTime(text)
	return err == nil
}

func isSex(text string) bool { return text == "M" || text == "F" || text == "O" }

func isStatusWord(text string) bool { return text == wordProgress || stateOf(text) != api.PerfProgress }

// stateOf gives the state that a word says; what says no end is in progress.
func stateOf(word string) int {
	switch word {
	case wordCompleted:
		return api.PerfCompleted
	case wordDiscontinued:
		return api.PerfDiscontinued
	}
	return api.PerfProgress
}

// statusWord gives the word of a performed step's data set; none where there is none.
func statusWord(data []api.Node) string {
	word, _ := dict.Value(data, api.TagDoneStatus)
	return word
}

func isEmpty(n api.Node) bool { return n.N == 0 && n.Value == "" }
