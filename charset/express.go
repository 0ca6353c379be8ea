package charset

import (
	"slices"
	"strings"

	"modality/api"
)

// Express turns the texts of a data set into a character set (P4.8).
func Express(nodes []api.Node, cs string) ([]api.Node, error) {
	levels, wrong := levelsOf(nodes)
	if wrong = earlier(wrong, slices.IndexFunc(nodes, namesSet)); wrong != nowhere {
		return nil, refusal(wrong, api.ErrCharNodes)
	}
	s, err := valueSet(cs)
	if err != nil {
		return nil, elsewhere(len(nodes), err)
	}
	written, err := writeTexts(nodes, s)
	if err != nil {
		s = setOf(universal)
		written, err = writeTexts(nodes, s)
	}
	if err != nil {
		return nil, err
	}
	if !s.isDefault() {
		written = slices.Insert(written, namePlace(nodes, levels), nameOf(s))
	}
	if len(written) > api.MaxNodes {
		return nil, refusal(api.MaxNodes, api.ErrCharNodes)
	}
	return written, nil
}

// earlier tells the lower one of two places, either of which may be nowhere.
func earlier(a, b int) int {
	if a == nowhere || b == nowhere {
		return max(a, b)
	}
	return min(a, b)
}

func namesSet(n api.Node) bool { return n.Tag == api.TagCharset }

// isDefault tells whether the set is the one that holds where none is named.
func (s *Set) isDefault() bool { return s.list[0].number == ascii && !s.extended }

func writeTexts(nodes []api.Node, s *Set) ([]api.Node, error) {
	written := append([]api.Node(nil), nodes...)
	for i, n := range nodes {
		kind, ok := kindOf(n.VR)
		if !ok {
			continue
		}
		raw, err := s.Encode(kind, n.Value)
		if err != nil {
			return nil, elsewhere(i, err)
		}
		written[i].Value = string(raw)
	}
	return written, nil
}

// namePlace tells where the element that names the set goes: ahead of the first top element with a higher tag.
func namePlace(nodes []api.Node, levels []int) int {
	for i, n := range nodes {
		if levels[i] == 0 && n.VR != api.VRItem && n.Tag > api.TagCharset {
			return i
		}
	}
	return len(nodes)
}

func nameOf(s *Set) api.Node {
	return api.Node{Tag: api.TagCharset, VR: api.VRCS, Value: strings.Join(s.Terms(), `\`)}
}
