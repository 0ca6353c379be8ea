package charset_test

import (
	"bytes"
	"slices"
	"strings"
	"sync"
	"testing"

	"modality/api"
	"modality/charset"
)

// TestPlainSets: a set that New did not give.
func TestPlainSets(t *testing.T) {
	for _, s := range []*charset.Set{nil, {}, new(charset.Set)} {
		if s.Terms() != nil {
			t.Errorf("Terms: %q", s.Terms())
		}
		for _, r := range []rune{-1, 0, 'a', ' ', 'é', 0x10FFFF} {
			if s.Has(r) {
				t.Errorf("Has(%d)", r)
			}
		}
		for _, kind := range []int{-1, api.CharText, api.CharWord, api.CharName, 3} {
			for _, text := range []string{"", "a", "\xFF", filled(api.MaxCharBytes+1, "")} {
				if got, err := s.Decode(kind, []byte(text)); got != "" || !is(err, api.ErrZero, 0) {
					t.Errorf("Decode(%d, %.9q): %q, %v", kind, text, got, err)
				}
				if got, err := s.Encode(kind, text); got != nil || !is(err, api.ErrZero, 0) {
					t.Errorf("Encode(%d, %.9q): %q, %v", kind, text, got, err)
				}
			}
		}
	}
}

// TestSetMemory: a set keeps nothing that was handed in, hands out nothing of its own, and changes nothing.
func TestSetMemory(t *testing.T) {
	terms := []string{" ISO 2022 IR 100", "ISO 2022 IR 101 ", "behind"}
	before := slices.Clone(terms)
	s := set(t, terms[:2]...)
	if !slices.Equal(terms, before) {
		t.Errorf("the terms are now %q", terms)
	}
	terms[0], terms[1] = "ISO_IR 6", "X"
	want := []string{"ISO 2022 IR 100", "ISO 2022 IR 101"}
	told := s.Terms()
	for i := range told[:cap(told)] {
		told[:cap(told)][i] = "mine"
	}
	if again := s.Terms(); !slices.Equal(again, want) {
		t.Errorf("Terms is now %q", again)
	}
	room := []byte("\x1B-B\xB3behind")
	raw := room[:4]
	wantText(t, s, api.CharWord, string(raw), "ł")
	text, _ := s.Decode(api.CharWord, raw)
	first, _ := s.Encode(api.CharWord, "łé")
	second, _ := s.Encode(api.CharWord, "łé")
	for i := range first[:cap(first)] {
		first[:cap(first)][i] = 'x'
	}
	if string(second) != "\x1B-B\xB3\xE9" || string(room) != "\x1B-B\xB3behind" {
		t.Errorf("what was told shares memory: %q, %q", second, room)
	}
	raw[3] = 'x'
	if text != "ł" {
		t.Errorf("the text is now %q", text)
	}
}

// TestTermsEmptyList: an empty list with room behind its end is left as it is.
func TestTermsEmptyList(t *testing.T) {
	room := []string{"ISO_IR 100"}
	if s := set(t, room[:0]...); s.Terms()[0] != "ISO_IR 6" || room[0] != "ISO_IR 100" {
		t.Errorf("%q, %q", s.Terms(), room)
	}
}

func TestNodesMemory(t *testing.T) {
	for name, call := range map[string]func([]api.Node) ([]api.Node, error){
		"Unify":   charset.Unify,
		"Express": func(nodes []api.Node) ([]api.Node, error) { return charset.Express(nodes, "ISO_IR 100") },
		"plain":   func(nodes []api.Node) ([]api.Node, error) { return charset.Express(nodes, "") },
	} {
		for _, nodes := range [][]api.Node{
			{element(0x00080060, api.VRCS, "CT")},
			{sequence(0x00400100, 1), item(1), element(0x00100020, api.VRLO, "a")},
			{sequence(0x00400100, 1), item(2), named("ISO_IR 100"), element(0x00100020, api.VRLO, "\xE9")},
			{named("ISO_IR 100"), element(0x00100020, api.VRLO, "\xE9")},
		} {
			all := append(slices.Clone(nodes), item(7), item(7), item(7))
			before := slices.Clone(all)
			list := all[:len(nodes)]
			first, err := call(list)
			if !slices.Equal(all, before) {
				t.Errorf("%s: the list is now %v", name, all)
			}
			want := slices.Clone(first)
			second, _ := call(list)
			for i := range first[:cap(first)] {
				first[:cap(first)][i] = item(99)
			}
			if !slices.Equal(second, want) || !slices.Equal(all, before) {
				t.Errorf("%s: what was told shares memory: %v, %v, %v", name, second, all, err)
			}
		}
	}
}

// TestFaultsAreNew: whoever changes a fault changes no other.
func TestFaultsAreNew(t *testing.T) {
	s := set(t, "ISO 2022 IR 100")
	long := strings.Repeat("a", api.MaxCharBytes+1)
	for name, call := range map[string]func() error{
		"New":         func() error { _, err := charset.New([]string{"X"}); return err },
		"New many":    func() error { _, err := charset.New(make([]string, 7)); return err },
		"zero":        func() error { _, err := (*charset.Set)(nil).Decode(0, nil); return err },
		"Decode kind": func() error { _, err := s.Decode(9, nil); return err },
		"Decode":      func() error { _, err := s.Decode(0, []byte{0}); return err },
		"escape":      func() error { _, err := s.Decode(0, []byte{0x1B}); return err },
		"long":        func() error { _, err := s.Decode(0, []byte(long)); return err },
		"Encode":      func() error { _, err := s.Encode(0, "\x00"); return err },
		"Unify":       func() error { _, err := charset.Unify([]api.Node{item(0)}); return err },
		"Unify text":  func() error { _, err := charset.Unify([]api.Node{name("\xFF")}); return err },
		"Unify set":   func() error { _, err := charset.Unify([]api.Node{named("X")}); return err },
		"Express":     func() error { _, err := charset.Express([]api.Node{item(0)}, ""); return err },
		"Express set": func() error { _, err := charset.Express(nil, "X"); return err },
	} {
		first := call().(*api.Fault)
		text := first.Error()
		*first = api.Fault{}
		if again := call(); again.Error() != text {
			t.Errorf("%s: %v, then %v", name, text, again)
		}
	}
}

// TestAtOnce: a set that is asked from several sides at one time answers all alike.
func TestAtOnce(t *testing.T) {
	s := set(t, extended...)
	var wait sync.WaitGroup
	answers := make([][]byte, 16)
	for i := range answers {
		wait.Go(func() {
			answers[i], _ = s.Encode(api.CharWord, "aéłЛαğ")
		})
	}
	wait.Wait()
	for _, a := range answers {
		if !bytes.Equal(a, []byte("a\x1B-A\xE9\x1B-B\xB3\x1B-L\xBB\x1B-F\xE1\x1B-M\xF0")) {
			t.Errorf("% X", a)
		}
	}
}
