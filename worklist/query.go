package worklist

import (
	"slices"

	"modality/api"
	"modality/dict"
)

// query is a list of keys that was read: the nodes that each of its answers has, one by one.
type query []cell

// cell is a node of an answer: the key that names it, and what tells its text.
type cell struct {
	key  api.Node
	text func(api.Step) string // none, if the key is not known where it stands
}

// read goes over well-formed keys. What stands in other items than the step's is nothing to an answer.
func read(keys []api.Node) query {
	known := attributes()
	var q query
elements:
	for i, next := 0, 0; i < len(keys); i = next {
		next = dict.Next(keys, i)
		if keys[i].Tag != api.TagSteps {
			q = append(q, cellOf(keys[i], atTop, known))
			continue
		}
		steps, items := keys[i], namedItems(keys[i+1:next])
		steps.N = 1
		q = append(q, cell{key: steps}, cell{key: items[0]})
		for j := 1; j < len(items); j = dict.Next(items, j) {
			if items[j].VR == api.VRItem {
				continue elements
			}
			q = append(q, cellOf(items[j], inStep, known))
		}
	}
	return q
}

// namedItems gives the items of (0040,0100) as they are, if the first names something; else one that names all that is known of a step.
func namedItems(items []api.Node) []api.Node {
	if len(items) > 0 && items[0].N > 0 {
		return items
	}
	all := blank(inStep)
	return append([]api.Node{{Tag: api.TagItem, VR: api.VRItem, N: len(all)}}, all...)
}

func cellOf(key api.Node, place int, known []attribute) cell {
	key.N = 0 // a sequence that is not known is told without its items
	i := slices.IndexFunc(known, func(a attribute) bool { return a.place == place && a.tag == key.Tag })
	if i < 0 {
		return cell{key: key}
	}
	return cell{key: key, text: known[i].text}
}

// answer tells of a step what the keys name.
func (q query) answer(s api.Step) []api.Node {
	var nodes []api.Node
	for _, c := range q {
		n := c.key
		n.Value = ""
		if c.text != nil {
			n.Value = c.text(s)
		}
		nodes = append(nodes, n)
	}
	return nodes
}

// asked gives the cells of the keys that restrict the steps.
func (q query) asked() []cell { return filter(q, cell.isAsked) }

func (c cell) isAsked() bool { return c.text != nil && c.key.Value != "" }

// filter gives those of a list of which something holds, in their order.
func filter[T any](list []T, holds func(T) bool) []T {
	var kept []T
	for _, x := range list {
		if holds(x) {
			kept = append(kept, x)
		}
	}
	return kept
}
