package scu_test

import (
	"fmt"
	"strings"
	"testing"

	"modality/api"
	"modality/pdu"
	"modality/scu"
)

// settings are values of each field of a configuration, by its number: those that may be, and those that may not.
func settings() (good, bad [6][]func(*api.ScuConfig)) {
	title := func(text string) func(*api.ScuConfig) { return func(c *api.ScuConfig) { c.Title = text } }
	called := func(text string) func(*api.ScuConfig) { return func(c *api.ScuConfig) { c.Called = text } }
	for _, text := range []string{"A", "CT 1", "0123456789abcdef", "!~[]^_`", "A" + strings.Repeat(" ", 14) + "B"} {
		good[0], good[1] = append(good[0], title(text)), append(good[1], called(text))
	}
	for _, text := range []string{"", " ", " A", "A ", `A\B`, "A\tB", "A\x00", "Ä", "A\x7F", "A\xFF", "0123456789abcdefg"} {
		bad[0], bad[1] = append(bad[0], title(text)), append(bad[1], called(text))
	}
	classes := func(list ...string) func(*api.ScuConfig) { return func(c *api.ScuConfig) { c.Classes = list } }
	long := "1." + strings.Repeat("2", 62)
	good[2] = append(good[2], classes("0"), classes("1.2.3"), classes(long), classes("1.2", "1.2"), classes(repeated("1.2", 128)...))
	bad[2] = append(bad[2], classes(), classes(""), classes("1.2", ""), classes("1.02"), classes("1..2"), classes("1.2.", "1"), classes("1.2 "), classes("1.2\x00"),
		classes("1.a"), classes(long+"3"), classes(repeated("1.2", 129)...), classes(append(repeated("1.2", 127), "x")...), classes(`1.2\1.3`))
	syntaxes := func(list ...api.Syntax) func(*api.ScuConfig) { return func(c *api.ScuConfig) { c.Syntaxes = list } }
	good[3] = append(good[3], syntaxes(1), syntaxes(2), syntaxes(1, 2), syntaxes(2, 1))
	bad[3] = append(bad[3], syntaxes(), syntaxes(0), syntaxes(3), syntaxes(-1), syntaxes(1, 1), syntaxes(2, 2), syntaxes(1, 3), syntaxes(0, 2), syntaxes(1, 2, 1), syntaxes(1, 2, 3))
	most := func(n uint32) func(*api.ScuConfig) { return func(c *api.ScuConfig) { c.Most = n } }
	good[4] = append(good[4], most(0), most(64), most(65), most(16384), most(16385), most(1<<32-1))
	bad[4] = append(bad[4], most(1), most(2), most(63))
	artim := func(n int) func(*api.ScuConfig) { return func(c *api.ScuConfig) { c.Artim = n } }
	good[5] = append(good[5], artim(1), artim(2), artim(1000))
	bad[5] = append(bad[5], artim(0), artim(-1), artim(1001), artim(-1<<63), artim(1<<63-1))
	return good, bad
}

func repeated(text string, n int) []string {
	var list []string
	for range n {
		list = append(list, text)
	}
	return list
}

// TestNew: each field may be what the document says, and the scanner is idle (P17.1).
func TestNew(t *testing.T) {
	good, _ := settings()
	for field := range good {
		for i, change := range good[field] {
			c := exampleConfig()
			change(&c)
			s, err := scu.New(c)
			if err != nil || s == nil {
				t.Fatalf("P17.1: field %d, value %d: %v", field, i, err)
			}
			isIn(t, "P17.1: a new scanner", s, api.ScuState{Sta: 1})
			gives(t, "P17.2: whatever it is, it can ask", do(t, s, kind(api.DoConnect)), opens())
			gives(t, "P17.2: whatever it is, layer 8 writes it", s.Opened(), sendsPdu(requesting(c)))
		}
	}
}

// TestNewRefused: of several fields that may not be the first is told (P17.1).
func TestNewRefused(t *testing.T) {
	_, bad := settings()
	for field := range bad {
		for i, change := range bad[field] {
			for behind := field; behind < len(bad); behind++ {
				c := exampleConfig()
				change(&c)
				if behind > field {
					bad[behind][0](&c)
				}
				s, err := scu.New(c)
				if s != nil || !isFault(err, field, api.ErrScuConfig) {
					t.Errorf("P17.1: field %d, value %d, and field %d: %v, %v", field, i, behind, s, err)
				}
			}
		}
	}
}

// TestTitles: a title is one of layer 8's, byte by byte.
func TestTitles(t *testing.T) {
	for b := range 256 {
		for _, form := range []string{"%s", "A%s", "%sA", "A%sA"} {
			text := fmt.Sprintf(form, string([]byte{byte(b)}))
			p := requesting(exampleConfig())
			p.Assoc.Calling = text
			_, wrong := pdu.Encode(p)
			c := exampleConfig()
			c.Title = text
			if _, err := scu.New(c); (err == nil) != (wrong == nil) {
				t.Errorf("P17.1: the title %q: %v, in layer 8 %v", text, err, wrong)
			}
			c = exampleConfig()
			c.Called = text
			if _, err := scu.New(c); (err == nil) != (wrong == nil) {
				t.Errorf("P17.1: the title %q: %v, in layer 8 %v", text, err, wrong)
			}
		}
	}
}
