package dict

import "modality/api"

// level is what stands beside one another at one place of a data set: the elements of the top or of an item, or a sequence's items.
type level struct {
	left int     // how many are still wanted
	last api.Tag // of the element ahead
}

// Formed tells whether a list of nodes is a well-formed data set (P3.10).
func Formed(nodes []api.Node) error {
	levels := []level{{}} // elements and items by turns; the first is the top, which wants no number
	for i, n := range nodes {
		if i == api.MaxNodes || !isRight(n, levels) {
			return refusal(i, api.ErrSet)
		}
		levels = step(levels, n)
	}
	if len(levels) > 1 {
		return refusal(len(nodes), api.ErrSet)
	}
	return nil
}

// isRight tells whether a node may stand where the levels are.
func isRight(n api.Node, levels []level) bool {
	if wantsItem(levels) {
		return isItem(n) && len(levels)/2 <= api.MaxDepth
	}
	return isElement(n) && n.Tag > levels[len(levels)-1].last
}

func wantsItem(levels []level) bool { return len(levels)%2 == 0 }

// step goes past a node: into it, if it holds others, and out of all that has its number.
func step(levels []level, n api.Node) []level {
	inner := len(levels) - 1
	levels[inner].left--
	levels[inner].last = n.Tag
	if wantsItem(levels) || n.VR == api.VRSQ {
		levels = append(levels, level{left: n.N})
	}
	for len(levels) > 1 && levels[len(levels)-1].left == 0 {
		levels = levels[:len(levels)-1]
	}
	return levels
}

func isItem(n api.Node) bool {
	return n.Tag == api.TagItem && n.VR == api.VRItem && n.Value == "" && n.N >= 0
}

// isElement tells whether a node is right as an element, whatever stands ahead of it.
func isElement(n api.Node) bool {
	if !mayStand(n.Tag) {
		return false
	}
	if e, known := Find(n.Tag); known && n.VR != e.VR {
		return false
	}
	if n.VR == api.VRSQ {
		return n.Value == "" && n.N >= 0
	}
	r, ok := repOf(n.VR)
	return ok && n.N == 0 && len(n.Value) <= api.MaxValue && r.isUnpadded(n.Value)
}

// mayStand tells whether a data set may have an element with this tag.
func mayStand(t api.Tag) bool {
	switch group(t) {
	case 0x0000, 0x0002, 0xFFFE, 0xFFFF:
		return false
	}
	return element(t) != 0
}

// isUnpadded tells whether a reader would find the value again behind its padding.
func (r rep) isUnpadded(value string) bool {
	if r.Text {
		return trimmed(value) == value
	}
	return len(value)%2 == 0
}

// Next tells the place behind a node and all that belongs to it (P3.11).
func Next(nodes []api.Node, i int) int {
	if i < 0 || i >= len(nodes) {
		return len(nodes)
	}
	for wanted := 1; i < len(nodes) && wanted > 0; i++ {
		// More than there are nodes can't be there: so the sum stays small, whatever a node says.
		wanted += min(max(nodes[i].N, 0), len(nodes)) - 1
	}
	return i
}

// Value tells the value of an element of the top level (P3.11).
func Value(nodes []api.Node, t api.Tag) (string, bool) {
	i := place(nodes, t)
	if i == len(nodes) {
		return "", false
	}
	return nodes[i].Value, true
}

// place tells where on the top level the first node with a tag stands, the list's end if none does.
func place(nodes []api.Node, t api.Tag) int {
	i := 0
	for i < len(nodes) && nodes[i].Tag != t {
		i = Next(nodes, i)
	}
	return i
}

// Items tells the items of a sequence of the top level (P3.11).
func Items(nodes []api.Node, t api.Tag) ([][]api.Node, bool) {
	i := place(nodes, t)
	if i == len(nodes) || nodes[i].VR != api.VRSQ {
		return nil, false
	}
	var items [][]api.Node
	end := Next(nodes, i)
	for i++; i < end; {
		next := Next(nodes, i)
		items = append(items, append([]api.Node(nil), nodes[i+1:next]...))
		i = next
	}
	return items, true
}
