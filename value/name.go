package value

import (
	"strings"

	"modality/api"
)

const components = 5 // of a group

// ParseName reads a person's name (P5.6).
func ParseName(s string) (api.Name, error) {
	var n api.Name
	from, more := 0, true
	for g := 0; more; g++ {
		if g == len(n.Part) {
			return api.Name{}, refusal(from-1, api.ErrValueMany)
		}
		var group string
		var err error
		group, _, more = strings.Cut(s[from:], "=")
		if n.Part[g], err = readGroup(group, from); err != nil {
			return api.Name{}, err
		}
		from += len(group) + 1
	}
	return n, nil
}

// readGroup reads a group that begins at this place of the text.
func readGroup(group string, at int) ([components]string, error) {
	var parts [components]string
	c, from, runes := 0, 0, 0
	for i, r := range group {
		runes++
		switch {
		case isBarred(r):
			return parts, refusal(at+i, api.ErrValueForm)
		case r != '^':
			continue
		case c == components-1:
			return parts, refusal(at+i, api.ErrValueMany)
		}
		parts[c] = group[from:i]
		c, from = c+1, i+1
	}
	parts[c] = group[from:]
	if runes > api.MaxRunes {
		return parts, refusal(at, api.ErrValueLong)
	}
	return parts, nil
}

// isBarred tells whether a rune may stand nowhere in a name.
func isBarred(r rune) bool { return r < 32 || r == 127 || r == '\\' }

// PrintName writes a person's name (P5.6).
func PrintName(n api.Name) (string, error) {
	var groups [len(n.Part)]string
	for g, parts := range n.Part {
		group, err := groupText(parts, components*g)
		if err != nil {
			return "", err
		}
		groups[g] = group
	}
	return strings.TrimRight(strings.Join(groups[:], "="), "="), nil
}

// groupText writes a group whose first component has this number.
func groupText(parts [components]string, number int) (string, error) {
	for c, part := range parts {
		if !isComponent(part) {
			return "", refusal(number+c, api.ErrValueField)
		}
	}
	group := strings.TrimRight(strings.Join(parts[:], "^"), "^")
	runes := 0
	for range group {
		runes++
	}
	if runes > api.MaxRunes {
		return "", refusal(number, api.ErrValueLong)
	}
	return group, nil
}

func isComponent(s string) bool {
	for _, r := range s {
		if isBarred(r) || r == '^' || r == '=' {
			return false
		}
	}
	return true
}
