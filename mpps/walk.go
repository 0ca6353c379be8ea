package mpps

import (
	"modality/api"
	"modality/dict"
)

// place is where a walk stands: at an element, or, behind the last one of a level, at an attribute that is not there.
type place struct {
	row   attribute // what the table says of it on its level
	node  api.Node
	there bool
}

// walk goes through the levels of a data set, and gathers the tags of the places that offend.
type walk struct {
	table   table
	offends func(place) bool
	found   offenders
}

// through goes through a level, and through those in the items of its elements. It goes neither into what offends, nor into what the table does not have.
func (w *walk) through(level int, nodes []api.Node) {
	missing := w.table.tags(level)
elements:
	for i, next := 0, 0; i < len(nodes); i = next {
		next = dict.Next(nodes, i)
		delete(missing, nodes[i].Tag)
		row := w.table.row(level, nodes[i].Tag)
		if w.ask(place{row: row, node: nodes[i], there: true}) || row.items == nowhere {
			continue elements
		}
		for j, behind := i+1, 0; j < next; j = behind {
			behind = dict.Next(nodes, j)
			w.through(row.items, nodes[j+1:behind])
			if w.found.isFull() {
				break elements
			}
		}
	}
	for _, row := range w.table[level] {
		if missing.has(row.tag) {
			w.ask(place{row: row, node: api.Node{Tag: row.tag}})
		}
	}
}

// ask tells whether a place offends, and names it then.
func (w *walk) ask(p place) bool {
	offends := w.offends(p)
	if offends {
		w.found = w.found.with(p.node.Tag)
	}
	return offends
}
