package value

import (
	"slices"
	"strings"

	"modality/api"
)

// The ways in which a value is held against a key.
const (
	byNothing = iota // it can't be matched
	bySpan
	byName
	byPattern
	byList
	byWhole
	byNumber
	byBytes
)

// rule says how the values of a VR are matched.
type rule struct {
	by  int
	cut bool // a value is cut at its backslashes, and one piece that matches is enough
}

// rules has a VR's rule at its number.
var rules = [...]rule{
	api.VRAE: {by: byPattern, cut: true},
	api.VRAS: {by: byBytes, cut: true},
	api.VRAT: {by: byBytes, cut: true},
	api.VRCS: {by: byPattern, cut: true},
	api.VRDA: {by: bySpan, cut: true},
	api.VRDS: {by: byNumber, cut: true},
	api.VRDT: {by: bySpan, cut: true},
	api.VRFD: {by: byBytes, cut: true},
	api.VRFL: {by: byBytes, cut: true},
	api.VRIS: {by: byWhole, cut: true},
	api.VRLO: {by: byPattern, cut: true},
	api.VRLT: {by: byPattern},
	api.VROB: {by: byBytes, cut: true},
	api.VROW: {by: byBytes, cut: true},
	api.VRPN: {by: byName, cut: true},
	api.VRSH: {by: byPattern, cut: true},
	api.VRSL: {by: byBytes, cut: true},
	api.VRSQ: {by: byNothing},
	api.VRSS: {by: byBytes, cut: true},
	api.VRST: {by: byPattern},
	api.VRTM: {by: bySpan, cut: true},
	api.VRUC: {by: byPattern, cut: true},
	api.VRUI: {by: byList},
	api.VRUL: {by: byBytes, cut: true},
	api.VRUN: {by: byBytes, cut: true},
	api.VRUR: {by: byPattern},
	api.VRUS: {by: byBytes, cut: true},
	api.VRUT: {by: byPattern},
}

// ruleOf tells the rule of a VR; that of what is no VR is to match nothing.
func ruleOf(vr api.VR) rule {
	if vr < 0 || int(vr) >= len(rules) {
		return rule{}
	}
	return rules[vr]
}

// Key tells whether a key may be matched with (P5.12).
func Key(vr api.VR, key string) error {
	_, err := matcher(vr, key)
	return err
}

// Match tells whether a value matches a key (P5.11).
func Match(vr api.VR, key, value string) (bool, error) {
	matches, err := matcher(vr, key)
	if err != nil {
		return false, err
	}
	if !ruleOf(vr).cut {
		return matches(value), nil
	}
	return slices.ContainsFunc(strings.Split(value, `\`), matches), nil
}

// matcher gives what tells whether a piece of a value matches a key. The key is read here, once and whatever the value is: so Key and Match refuse the same keys.
func matcher(vr api.VR, key string) (func(piece string) bool, error) {
	if key == "" {
		return func(string) bool { return true }, nil
	}
	switch ruleOf(vr).by {
	case bySpan:
		return spanMatcher(vr, key)
	case byName:
		return nameMatcher(key), nil
	case byPattern:
		return func(piece string) bool { return Glob(key, piece) }, nil
	case byList:
		return func(piece string) bool { return slices.Contains(strings.Split(key, `\`), piece) }, nil
	case byWhole:
		return sameMatcher(ParseWhole, key)
	case byNumber:
		return sameMatcher(ParseNumber, key)
	case byBytes:
		return func(piece string) bool { return piece == key }, nil
	}
	return nil, refusal(0, api.ErrValueKind)
}

func spanMatcher(vr api.VR, key string) (func(piece string) bool, error) {
	asked, err := Asked(vr, key)
	if err != nil {
		return nil, err
	}
	return func(piece string) bool {
		own, err := Own(vr, piece)
		return err == nil && own.First >= asked.First && own.First <= asked.Last
	}, nil
}

// sameMatcher is for numbers, which are read into one form.
func sameMatcher[N comparable](read func(string) (N, error), key string) (func(piece string) bool, error) {
	asked, err := read(key)
	if err != nil {
		return nil, err
	}
	return func(piece string) bool {
		own, err := read(piece)
		return err == nil && own == asked
	}, nil
}

func nameMatcher(key string) func(piece string) bool {
	asked := groupsOf(key)
	if len(asked) == 1 {
		return func(piece string) bool { return isSomeGroup(asked[0], groupsOf(piece)) }
	}
	return func(piece string) bool { return areGroups(asked, groupsOf(piece)) }
}

// groupsOf gives a name's groups, without the case of letters and without the delimiters at its end.
func groupsOf(name string) []string {
	return strings.Split(strings.TrimRight(Fold(name), "^="), "=")
}

// isSomeGroup tells whether a pattern, if there is one, holds of some group.
func isSomeGroup(pattern string, groups []string) bool {
	return pattern == "" || slices.ContainsFunc(groups, func(group string) bool { return Glob(pattern, group) })
}

// areGroups tells whether each pattern that there is holds of the group of its place.
func areGroups(patterns, groups []string) bool {
	for i, pattern := range patterns {
		group := ""
		if i < len(groups) {
			group = groups[i]
		}
		if pattern != "" && !Glob(pattern, group) {
			return false
		}
	}
	return true
}
