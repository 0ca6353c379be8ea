package mpps

import (
	"slices"

	"modality/api"
)

// tagSet has tags, to be asked for and taken away.
type tagSet map[api.Tag]struct{}

func setOf(tags []api.Tag) tagSet {
	set := tagSet{}
	for _, t := range tags {
		set[t] = struct{}{}
	}
	return set
}

func (s tagSet) has(t api.Tag) bool {
	_, there := s[t]
	return there
}

// offenders are tags that a verdict names: each once, and not more than it may name (P14.1).
type offenders []api.Tag

func (o offenders) isFull() bool { return len(o) == api.MaxOffending }

func (o offenders) with(t api.Tag) offenders {
	if o.isFull() || slices.Contains(o, t) {
		return o
	}
	return append(o, t)
}

// strangers gives the tags of a list that the table does not have on its top level.
func strangers(tags []api.Tag) offenders {
	known := attributes().tags(atTop)
	var found offenders
	for _, t := range tags {
		if !known.has(t) {
			found = found.with(t)
		}
	}
	return found
}
