package dict

import (
	"strings"
	"unicode/utf8"

	"modality/api"
)

// Check tells whether a single value may be (P3.8).
func Check(v api.VR, value string) error {
	r, ok := valuesOf(v)
	if !ok {
		return refusal(0, api.ErrDictVR)
	}
	if value == "" {
		return nil
	}
	if at := r.wrongLength(value); at >= 0 {
		return refusal(at, api.ErrDictLength)
	}
	if at := r.wrongChar(value); at >= 0 {
		return refusal(at, api.ErrDictChar)
	}
	if r.form != nil && !r.form(value) {
		return refusal(0, api.ErrDictForm)
	}
	return nil
}

// wrongLength tells the place at which a length is refused, -1 if it is not.
func (r rep) wrongLength(value string) int {
	switch {
	case len(value) > api.MaxValue:
		return api.MaxValue
	case !r.Text && !r.isWhole(len(value)):
		return len(value)
	case r.Text && r.Most != 0 && r.size(value) > r.Most:
		return r.Most
	}
	return -1
}

// isWhole tells whether so many bytes are a single value of a VR that is no text.
func (r rep) isWhole(size int) bool {
	if r.Multi {
		return size == r.Unit
	}
	return size%2 == 0 && size%r.Unit == 0
}

// size tells how long a text is, as its VR counts it.
func (r rep) size(value string) int {
	switch {
	case !r.Chars:
		return len(value)
	case r.Name == "PN":
		return longestGroup(value)
	}
	return utf8.RuneCountInString(value)
}

// longestGroup counts every group of a name, also those that are too many.
func longestGroup(name string) int {
	longest := 0
	for _, group := range strings.Split(name, nameGroups) {
		longest = max(longest, utf8.RuneCountInString(group))
	}
	return longest
}

// wrongChar tells where the first character begins that may not be there, -1 if there is none.
func (r rep) wrongChar(value string) int {
	if r.char == nil {
		return -1
	}
	for i, c := range value {
		if !r.char(c) || c == utf8.RuneError && isStray(value[i:]) {
			return i
		}
	}
	return -1
}

// isStray tells a byte that belongs to no character from the character that stands for one.
func isStray(rest string) bool {
	_, size := utf8.DecodeRuneInString(rest)
	return size == 1
}

// Valid tells whether an element's value may be: each of its single ones (P3.9).
func Valid(v api.VR, value string) error {
	if err := checkWhole(v, value); err != nil {
		return err
	}
	for i, single := range Split(v, value) {
		if err := Check(v, single); err != nil {
			return refusal(i, err)
		}
	}
	return nil
}

// checkWhole looks at what is refused of an element's value ahead of its single ones.
func checkWhole(v api.VR, value string) error {
	if _, ok := valuesOf(v); !ok {
		return refusal(0, api.ErrDictVR)
	}
	if len(value) > api.MaxValue {
		return refusal(api.MaxValue, api.ErrDictLength)
	}
	return nil
}

// Fits tells whether an attribute may have this value: as many single ones as it has, each valid (P3.9).
func Fits(t api.Tag, v api.VR, value string) error {
	if err := checkWhole(v, value); err != nil {
		return err
	}
	if e, known := Find(t); known && value != "" {
		n := len(Split(v, value))
		if n < e.Least || e.Most != many && n > e.Most {
			return refusal(n, api.ErrDictCount)
		}
	}
	return Valid(v, value)
}
