package charset

import (
	"errors"
	"strings"

	"modality/api"
)

// Unify turns the texts of a data set into UTF-8 (P4.7).
func Unify(nodes []api.Node) ([]api.Node, error) {
	levels, wrong := levelsOf(nodes)
	if wrong != nowhere {
		return nil, refusal(wrong, api.ErrCharNodes)
	}
	sets, err := setsOf(nodes, levels)
	if err != nil {
		return nil, err
	}
	read, err := readTexts(nodes, levels, sets)
	if err != nil {
		return nil, err
	}
	return withoutNames(read, levels), nil
}

// setsOf tells for each level the set that holds there.
func setsOf(nodes []api.Node, levels []int) ([]*Set, error) {
	sets := make([]*Set, len(nodes)+1)
	for i, n := range nodes {
		if n.Tag != api.TagCharset {
			continue
		}
		if n.VR != api.VRCS || sets[levels[i]] != nil {
			return nil, refusal(i, api.ErrCharNodes)
		}
		s, err := valueSet(n.Value)
		if err != nil {
			return nil, elsewhere(i, err)
		}
		sets[levels[i]] = s
	}
	inherit(nodes, levels, sets)
	return sets, nil
}

// inherit fills in the levels that name no set: the one around holds there, ISO_IR 6 at the top. It goes from the outside in: what is around an item stands ahead of it.
func inherit(nodes []api.Node, levels []int, sets []*Set) {
	if sets[0] == nil {
		sets[0] = setOf(ascii)
	}
	for i, n := range nodes {
		if n.VR == api.VRItem && sets[i+1] == nil {
			sets[i+1] = sets[levels[i]]
		}
	}
}

// valueSet gives the set that a value of (0008,0005) names.
func valueSet(value string) (*Set, error) { return New(strings.Split(value, `\`)) }

// elsewhere tells a fault's reason at the node in which it was found.
func elsewhere(at int, err error) error { return refusal(at, errors.Unwrap(err)) }

// readTexts gives the list with its texts in UTF-8; padding may come to light only here, behind an escape at a text's end.
func readTexts(nodes []api.Node, levels []int, sets []*Set) ([]api.Node, error) {
	read := append([]api.Node(nil), nodes...)
	for i, n := range nodes {
		kind, ok := kindOf(n.VR)
		if !ok {
			continue
		}
		text, err := sets[levels[i]].Decode(kind, []byte(n.Value))
		if err != nil {
			return nil, elsewhere(i, err)
		}
		read[i].Value = strings.TrimRight(text, " ")
	}
	return read, nil
}

// withoutNames takes the elements (0008,0005) out of a list of its own.
func withoutNames(nodes []api.Node, levels []int) []api.Node {
	for i, n := range nodes {
		if n.Tag == api.TagCharset && levels[i] > 0 {
			nodes[levels[i]-1].N--
		}
	}
	var rest []api.Node
	for _, n := range nodes {
		if n.Tag != api.TagCharset {
			rest = append(rest, n)
		}
	}
	return rest
}
