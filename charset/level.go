package charset

import "modality/api"

// nowhere is the wrong place of a list that has none.
const nowhere = -1

// span is what must still come at one place of a list: so many elements of a level, or so many items of a sequence on it.
type span struct {
	level int
	left  int
	items bool
}

// levelsOf tells on which level each node stands, or the wrong place of the list (P4.6). The top is level 0, an item's elements have its place and one; the item itself is on the level of its sequence.
func levelsOf(nodes []api.Node) (levels []int, wrong int) {
	open := []span{{left: len(nodes) + 1}} // the top never has enough, so it stays open
	for i, n := range nodes {
		inner := len(open) - 1
		if !mayStand(n, open[inner].items) {
			return nil, i
		}
		levels = append(levels, open[inner].level)
		open[inner].left--
		open = closed(opened(open, n, i))
	}
	if len(open) > 1 {
		return nil, len(nodes)
	}
	return levels, nowhere
}

// opened goes into a node that holds others.
func opened(open []span, n api.Node, place int) []span {
	switch n.VR {
	case api.VRSQ:
		return append(open, span{level: open[len(open)-1].level, left: n.N, items: true})
	case api.VRItem:
		return append(open, span{level: place + 1, left: n.N})
	}
	return open
}

// closed leaves all that has its number.
func closed(open []span) []span {
	for open[len(open)-1].left == 0 {
		open = open[:len(open)-1]
	}
	return open
}

func mayStand(n api.Node, asItem bool) bool {
	if asItem {
		return n.Tag == api.TagItem && n.VR == api.VRItem && n.N >= 0
	}
	if n.Tag == api.TagItem || n.VR == api.VRItem {
		return false
	}
	return n.N == 0 || n.N > 0 && n.VR == api.VRSQ
}
