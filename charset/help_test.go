package charset_test

import (
	"fmt"
	"strings"
	"testing"

	"modality/api"
	"modality/charset"
)

// is tells whether an error is this layer's fault with this number at this place; OK: no error.
func is(err error, code api.Errno, at int) bool {
	if code == api.OK {
		return err == nil
	}
	f, ok := err.(*api.Fault)
	return ok && f != nil && f.Layer == "charset" && f.At == at && f.Err == error(code)
}

// set gives the set of these terms.
func set(t *testing.T, terms ...string) *charset.Set {
	t.Helper()
	s, err := charset.New(terms)
	if err != nil || s == nil {
		t.Fatalf("New(%q): %v, %v", terms, s, err)
	}
	return s
}

// wantText fails if a text was not read as it must be.
func wantText(t *testing.T, s *charset.Set, kind int, raw, want string) {
	t.Helper()
	if text, err := s.Decode(kind, []byte(raw)); err != nil || text != want {
		t.Errorf("P4.4: %q: Decode(%d, % X): %q, %v; want %q", s.Terms(), kind, raw, text, err, want)
	}
}

// wantUnread fails if a text was not refused as it must be.
func wantUnread(t *testing.T, s *charset.Set, kind int, raw string, code api.Errno, at int) {
	t.Helper()
	if text, err := s.Decode(kind, []byte(raw)); !is(err, code, at) || text != "" {
		t.Errorf("P4.4: %q: Decode(%d, % .40X): %q, %v; want %d at %d", s.Terms(), kind, raw, text, err, code, at)
	}
}

// wantBytes fails if a text was not written as it must be.
func wantBytes(t *testing.T, s *charset.Set, kind int, text, want string) {
	t.Helper()
	if raw, err := s.Encode(kind, text); err != nil || string(raw) != want {
		t.Errorf("P4.5: %q: Encode(%d, %q): % X, %v; want % X", s.Terms(), kind, text, raw, err, want)
	}
}

// wantUnwritten fails if a text was not refused as it must be.
func wantUnwritten(t *testing.T, s *charset.Set, kind int, text string, code api.Errno, at int) {
	t.Helper()
	if raw, err := s.Encode(kind, text); !is(err, code, at) || raw != nil {
		t.Errorf("P4.5: %q: Encode(%d, %.40q): % X, %v; want %d at %d", s.Terms(), kind, text, raw, err, code, at)
	}
}

var allKinds = []int{api.CharText, api.CharWord, api.CharName}

// single has the terms without code extensions, extended those with, by the same numbers.
var (
	numbers  = []string{"6", "100", "101", "126", "144", "148"}
	single   = each("ISO_IR ")
	extended = each("ISO 2022 IR ")
)

func each(head string) []string {
	var l []string
	for _, n := range numbers {
		l = append(l, head+n)
	}
	return l
}

func named(value string) api.Node {
	return api.Node{Tag: api.TagCharset, VR: api.VRCS, Value: value}
}

func element(tag api.Tag, v api.VR, value string) api.Node {
	return api.Node{Tag: tag, VR: v, Value: value}
}

func sequence(tag api.Tag, items int) api.Node {
	return api.Node{Tag: tag, VR: api.VRSQ, N: items}
}

func item(elements int) api.Node {
	return api.Node{Tag: api.TagItem, VR: api.VRItem, N: elements}
}

func name(value string) api.Node { return element(api.TagPatientName, api.VRPN, value) }

// filled gives a text of so many bytes that ends in this one.
func filled(size int, end string) string {
	return strings.Repeat("a", size-len(end)) + end
}

// shown tells the beginning of a list.
func shown(nodes []api.Node) string {
	text := fmt.Sprint(len(nodes), " nodes")
	for i := 0; i < len(nodes) && i < 20; i++ {
		text += fmt.Sprintf(" %08X:%d:%d:%.40q", nodes[i].Tag, nodes[i].VR, nodes[i].N, nodes[i].Value)
	}
	return text
}
