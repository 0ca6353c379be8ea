package mpps

import (
	"maps"
	"slices"

	"modality/api"
	"modality/dict"
)

// parts cuts a data set into its top elements, each with what is in it.
func parts(nodes []api.Node) [][]api.Node {
	var list [][]api.Node
	for i, next := 0, 0; i < len(nodes); i = next {
		next = dict.Next(nodes, i)
		list = append(list, nodes[i:next])
	}
	return list
}

// merge gives a row's data set, with each top element of another one new or in the place of the row's.
func merge(row, ds []api.Node) []api.Node {
	latest := map[api.Tag][]api.Node{}
	for _, part := range append(parts(row), parts(ds)...) {
		latest[part[0].Tag] = part
	}
	var merged []api.Node
	for _, tag := range slices.Sorted(maps.Keys(latest)) {
		merged = append(merged, latest[tag]...)
	}
	return merged
}

// pick gives the top elements of a row that a list of tags names; all, if it names none.
func pick(row []api.Node, tags []api.Tag) []api.Node {
	asked := setOf(tags)
	var picked []api.Node
	for _, part := range parts(row) {
		if len(tags) == 0 || asked.has(part[0].Tag) {
			picked = append(picked, part...)
		}
	}
	return picked
}
