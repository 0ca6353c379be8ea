package pdu_test

import (
	"regexp"
	"strings"
	"testing"

	"modality/api"
	"modality/pdu"
)

// What the texts are, said by patterns.
var (
	titles = regexp.MustCompile(`^[!-\[\]-~]([ -\[\]-~]{0,14}[!-\[\]-~])?$`)
	uids   = regexp.MustCompile(`^[0-9.]{1,64}$`)
	names  = regexp.MustCompile(`^[ -~]{1,16}$`)
)

// words is texts that try every byte at every place of a text, every length, and runes that are no single bytes.
func words() []string {
	list := []string{"", "é", "1é", "日本", "\xff", "1\u200b", "1.2\u0661", "A\u00a0", "\ufffd", " ", "  ", "A B", " A", "A ", `\`, "1.2.840.10008.3.1.1.1", ".", "..", "0"}
	for n := 1; n <= 70; n++ {
		list = append(list, strings.Repeat("1", n), strings.Repeat("é", n), strings.Repeat(" ", n), strings.Repeat("1", n)+"\x00", strings.Repeat("1", n)+" ")
	}
	for c := range 256 {
		one := string([]byte{byte(c)})
		list = append(list, one, one+"1", "1"+one, "1"+one+"1", strings.Repeat("2", 15)+one, one+strings.Repeat("2", 15), strings.Repeat("2", 63)+one)
	}
	return list
}

// TestTextsWritten: each text at each of its places, taken or refused as the pattern says.
func TestTextsWritten(t *testing.T) {
	for _, c := range []struct {
		what    string
		pattern *regexp.Regexp
		empty   bool // whether the empty text says that there is none
		at      int
		put     func(a *api.Associate, text string)
	}{
		{"Called", titles, false, 10, func(a *api.Associate, text string) { a.Called = text }},
		{"Calling", titles, false, 10, func(a *api.Associate, text string) { a.Calling = text }},
		{"App", uids, false, 11, func(a *api.Associate, text string) { a.App = text }},
		{"a context's class", uids, false, 20, func(a *api.Associate, text string) { a.Contexts[0].Class = text }},
		{"a context's syntax", uids, false, 21, func(a *api.Associate, text string) { a.Contexts[1].Syntaxes[2] = text }},
		{"the class", uids, true, 13, func(a *api.Associate, text string) { a.User.Class = text }},
		{"the name", names, true, 13, func(a *api.Associate, text string) { a.User.Name = text }},
		{"a role's class", uids, false, 13, func(a *api.Associate, text string) { a.User.Roles[1].Class = text }},
	} {
		for _, word := range words() {
			p := full()
			c.put(&p.Assoc, word)
			b, err := pdu.Encode(p)
			if !c.pattern.MatchString(word) && !(c.empty && word == "") {
				if b != nil || !is(err, api.ErrPduText, c.at) {
					t.Errorf("P8.1: %q as %s: %s, %v", word, c.what, hex(b), err)
				}
				continue
			}
			if back, again := pdu.Decode(b); err != nil || again != nil || !same(back, p) {
				t.Errorf("P8.3: %q as %s: %v, %s, %v", word, c.what, err, shown(back), again)
			}
		}
	}
}

// TestTitlesRead: titles are told without the spaces around them; nothing else is taken away.
func TestTitlesRead(t *testing.T) {
	for _, word := range words() {
		for room := len(word); room <= 16; room++ {
			field := strings.Repeat(" ", 16-room) + word + strings.Repeat(" ", room-len(word))
			told := strings.Trim(field, " ")
			for at, titles2 := range map[int][2]string{10: {field, "B"}, 26: {"A", field}} {
				b := unit(1, titled(titles2[0], titles2[1]), app(), asked(1), item(0x50))
				if !titles.MatchString(told) {
					wantUnread(t, b, api.ErrPduText, at)
					continue
				}
				want := request()
				if at == 10 {
					want.Assoc.Called = told
				} else {
					want.Assoc.Calling = told
				}
				wantPdu(t, b, want)
			}
		}
	}
}

// TestUIDsRead: UIDs are told without the bytes 0 behind them, names as they are; one that is none is told at its first byte.
func TestUIDsRead(t *testing.T) {
	for _, c := range []struct {
		what string
		at   int
		lay  func(b []byte) []byte
		told func(p *api.Pdu, text string)
	}{
		{"App", 78, func(b []byte) []byte { return associate(1, item(0x10, b), asked(1), item(0x50)) },
			func(p *api.Pdu, text string) { p.Assoc.App = text }},
		{"a context's class", 93, func(b []byte) []byte { return inAsked(item(0x30, b), item(0x40, text("1.4"))) },
			func(p *api.Pdu, text string) { p.Assoc.Contexts[0].Class = text }},
		{"a context's syntax", 100, func(b []byte) []byte { return inAsked(item(0x30, text("1.3")), item(0x40, b), item(0x40, text("1.4"))) },
			func(p *api.Pdu, text string) { p.Assoc.Contexts[0].Syntaxes = []string{text, "1.4"} }},
		{"the class", 111, func(b []byte) []byte { return inUser(item(0x52, b)) },
			func(p *api.Pdu, text string) { p.Assoc.User.Class = text }},
		{"a role's class", 113, func(b []byte) []byte { return inUser(item(0x54, sized(2, b), raw(0, 1))) },
			func(p *api.Pdu, text string) { p.Assoc.User.Roles = []api.Role{{Class: text, Scp: 1}} }},
	} {
		for _, word := range words() {
			for _, zeros := range []int{0, 1, 2, 100} {
				field := word + strings.Repeat("\x00", zeros)
				told := strings.TrimRight(field, "\x00")
				if !uids.MatchString(told) {
					wantUnread(t, c.lay([]byte(field)), api.ErrPduText, c.at)
					continue
				}
				want := request()
				c.told(&want, told)
				wantPdu(t, c.lay([]byte(field)), want)
			}
		}
	}
}

func TestNamesRead(t *testing.T) {
	for _, word := range words() {
		b := inUser(item(0x55, text(word)))
		if !names.MatchString(word) {
			wantUnread(t, b, api.ErrPduText, 111)
			continue
		}
		want := request()
		want.Assoc.User.Name = word
		wantPdu(t, b, want)
	}
}
