package dict

import (
	"slices"
	"strings"

	"modality/api"
)

// between stands between the values of one text.
const between = `\`

// Split parts an element's value into single ones (P3.7).
func Split(v api.VR, value string) []string {
	r, ok := valuesOf(v)
	switch {
	case !ok || value == "":
		return nil
	case !r.Multi:
		return []string{value}
	case r.Text:
		return strings.Split(value, between)
	}
	return pieces(value, r.Unit)
}

// pieces cuts bytes into units; the last one is what is left.
func pieces(value string, unit int) []string {
	var list []string
	for len(value) > unit {
		list = append(list, value[:unit])
		value = value[unit:]
	}
	return append(list, value)
}

// Join makes an element's value out of single ones (P3.7).
func Join(v api.VR, values []string) (string, error) {
	r, ok := valuesOf(v)
	switch {
	case !ok:
		return "", refusal(0, api.ErrDictVR)
	case !r.Multi && len(values) > 1:
		return "", refusal(1, api.ErrDictCount)
	case !r.Multi:
		return strings.Join(values, ""), nil
	case r.Text:
		return joinTexts(values)
	}
	return joinUnits(values, r.Unit)
}

func joinTexts(values []string) (string, error) {
	parted := func(value string) bool { return strings.Contains(value, between) }
	if i := slices.IndexFunc(values, parted); i >= 0 {
		return "", refusal(i, api.ErrDictChar)
	}
	return strings.Join(values, between), nil
}

func joinUnits(values []string, unit int) (string, error) {
	uneven := func(value string) bool { return len(value) != unit }
	if i := slices.IndexFunc(values, uneven); i >= 0 {
		return "", refusal(i, api.ErrDictLength)
	}
	return strings.Join(values, ""), nil
}
