package charset_test

import (
	"slices"
	"strings"
	"testing"

	"modality/api"
	"modality/charset"
)

func TestNewRefuses(t *testing.T) {
	for _, x := range []struct {
		terms []string
		at    int
		code  api.Errno
	}{
		{[]string{"ISO_IR 100", "ISO 2022 IR 101"}, 0, api.ErrCharAlone},
		{[]string{"ISO 2022 IR 100", ""}, 1, api.ErrCharTerm},
		{[]string{"", "ISO 2022 IR 6"}, 1, api.ErrCharTwice},
		{[]string{"ISO_IR 13"}, 0, api.ErrCharTerm},
		{[]string{"ISO 2022 IR 192"}, 0, api.ErrCharTerm},
		{[]string{"ISO 2022 IR 13", ""}, 0, api.ErrCharTerm},
		{[]string{"ISO_IR  100"}, 0, api.ErrCharTerm},
		{[]string{"iso_ir 100"}, 0, api.ErrCharTerm},
		{[]string{"ISO_IR 100\x00"}, 0, api.ErrCharTerm},
		{[]string{"\tISO_IR 100"}, 0, api.ErrCharTerm},
		{[]string{"\u00A0ISO_IR 100"}, 0, api.ErrCharTerm},
		{[]string{"ISO_IR 6", "ISO 2022 IR 100"}, 0, api.ErrCharAlone},
		{[]string{"", "ISO_IR 6"}, 1, api.ErrCharAlone},
		{[]string{"", "ISO_IR 192"}, 1, api.ErrCharAlone},
		{[]string{"ISO_IR 192", "ISO_IR 192"}, 0, api.ErrCharAlone},
		{[]string{"ISO 2022 IR 100", "ISO_IR 100"}, 1, api.ErrCharAlone},
		{[]string{"ISO 2022 IR 100", "ISO 2022 IR 101", " ISO 2022 IR 100 "}, 2, api.ErrCharTwice},
		{[]string{"ISO 2022 IR 100", "ISO 2022 IR 100", "X"}, 1, api.ErrCharTwice},
		{[]string{"", "  "}, 1, api.ErrCharTerm},
		{[]string{"ISO 2022 IR 6", ""}, 1, api.ErrCharTerm},
		{make([]string, 6), 1, api.ErrCharTerm},
		{make([]string, 7), 6, api.ErrCharMany},
		{[]string{"X", "X", "X", "X", "X", "X", "X"}, 6, api.ErrCharMany},
		{make([]string, 1000), 6, api.ErrCharMany},
		{append(slices.Clone(extended), "ISO 2022 IR 6"), 6, api.ErrCharMany},
	} {
		if s, err := charset.New(x.terms); s != nil || !is(err, x.code, x.at) {
			t.Errorf("P4.1: New(%q): %v, %v; want %d at %d", x.terms, s, err, x.code, x.at)
		}
	}
}

func TestTerms(t *testing.T) {
	for _, x := range []struct{ terms, want []string }{
		{nil, []string{"ISO_IR 6"}},
		{[]string{}, []string{"ISO_IR 6"}},
		{[]string{""}, []string{"ISO_IR 6"}},
		{[]string{"   "}, []string{"ISO_IR 6"}},
		{[]string{"ISO_IR 6"}, []string{"ISO_IR 6"}},
		{[]string{"ISO 2022 IR 6"}, []string{"ISO 2022 IR 6"}},
		{[]string{"", "ISO 2022 IR 144"}, []string{"ISO 2022 IR 6", "ISO 2022 IR 144"}},
		{[]string{"  ", " ISO 2022 IR 144"}, []string{"ISO 2022 IR 6", "ISO 2022 IR 144"}},
		{[]string{" ISO_IR 192 "}, []string{"ISO_IR 192"}},
		{[]string{"   ISO_IR 148  "}, []string{"ISO_IR 148"}},
		{[]string{"ISO 2022 IR 126"}, []string{"ISO 2022 IR 126"}},
		{extended, extended},
		{[]string{"ISO 2022 IR 148", "ISO 2022 IR 6", "ISO 2022 IR 101"}, []string{"ISO 2022 IR 148", "ISO 2022 IR 6", "ISO 2022 IR 101"}},
	} {
		if got := set(t, x.terms...).Terms(); !slices.Equal(got, x.want) {
			t.Errorf("P4.2: Terms of %q: %q, want %q", x.terms, got, x.want)
		}
	}
}

// TestLists holds New against a model over all lists of up to three terms.
func TestLists(t *testing.T) {
	words := append([]string{"", " ", "X", "ISO_IR 192", "ISO 2022 IR 192", " ISO 2022 IR 101"}, append(single, extended...)...)
	lists := [][]string{nil}
	for i := 0; i < len(lists); i++ {
		holdNew(t, lists[i])
		for _, w := range words {
			if len(lists[i]) < 3 {
				lists = append(lists, append(slices.Clone(lists[i]), w))
			}
		}
	}
}

func holdNew(t *testing.T, terms []string) {
	t.Helper()
	want, at, code := modelTerms(terms)
	s, err := charset.New(terms)
	if !is(err, code, at) || (s == nil) != (code != api.OK) || !slices.Equal(s.Terms(), want) {
		t.Fatalf("P4.1: New(%q): %v, %v, want %d at %d", terms, s.Terms(), err, code, at)
	}
	if s == nil {
		return
	}
	_, err = s.Decode(api.CharWord, []byte("\x1B(B"))
	if extends := strings.HasPrefix(want[0], "ISO 2022"); (err == nil) != extends {
		t.Errorf("P4.1: New(%q): code extensions are not %v", terms, extends)
	}
}

// modelTerms is P4.1 and P4.2 told once more.
func modelTerms(terms []string) (told []string, at int, code api.Errno) {
	if len(terms) == 0 {
		terms = []string{""}
	}
	seen := map[string]bool{}
	for i, term := range terms {
		for strings.HasPrefix(term, " ") {
			term = term[1:]
		}
		for strings.HasSuffix(term, " ") {
			term = term[:len(term)-1]
		}
		if term == "" && i == 0 {
			term = map[bool]string{true: "ISO_IR 6", false: "ISO 2022 IR 6"}[len(terms) == 1]
		}
		number := term[strings.LastIndex(term, " ")+1:]
		switch {
		case !slices.Contains(single, term) && !slices.Contains(extended, term) && term != "ISO_IR 192":
			return nil, i, api.ErrCharTerm
		case !slices.Contains(extended, term) && len(terms) > 1:
			return nil, i, api.ErrCharAlone
		case seen[number]:
			return nil, i, api.ErrCharTwice
		}
		seen[number] = true
		told = append(told, term)
	}
	return told, 0, api.OK
}
