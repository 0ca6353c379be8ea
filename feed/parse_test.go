package feed_test

import (
	"fmt"
	"math/rand"
	"strings"
	"testing"

	"modality/api"
	"modality/feed"
)

// TestParse: a message with something in every field, one without what may be missing, a change, and a cancellation, by hand.
func TestParse(t *testing.T) {
	want := order()
	if got, err := feed.Parse(whole); err != nil || !same(got, want) {
		t.Errorf("P11.6: %s, %v\nwant %s", shown(got), err, shown(want))
	}
	want.Verb = api.OrderChange
	if got, err := feed.Parse(strings.Replace(whole, "ORC|NW", "ORC|XO", 1)); err != nil || !same(got, want) {
		t.Errorf("P11.6: %s, %v\nwant %s", shown(got), err, shown(want))
	}
	least := head + "PID|||P1||Doe\rORC|NW||||||^^^202401312359\rOBR|||||||||||||||||||RP1|S1|SCAN1|||MR\rZDS|1.2\r"
	want = api.Order{Control: "42", Verb: api.OrderNew, Steps: []api.Step{{ID: "S1", Procedure: "RP1", Study: "1.2", PatientName: "Doe", PatientID: "P1", Modality: "MR", Station: "SCAN1", Date: "20240131", Time: "235900", Status: api.StepScheduled}}}
	if got, err := feed.Parse(least); err != nil || !same(got, want) {
		t.Errorf("P11.6: %s, %v\nwant %s", shown(got), err, shown(want))
	}
	want = api.Order{Control: "42", Verb: api.OrderCancel, IDs: []string{"S1", "S2"}}
	cancel := head + "PID|||1||X\rNTE|x\rORC|CA\rOBR|||||||||||||||||||| S1 \rZDS\rORC|CA\rOBR||||||||||||||||||||S2"
	if got, err := feed.Parse(cancel); err != nil || !same(got, want) {
		t.Errorf("P11.6: %s, %v\nwant %s", shown(got), err, shown(want))
	}
	for _, text := range []string{whole, least, cancel} {
		wantParse(t, "P11.6", text)
	}
}

// faulty is a change of a message that makes it refused.
type faulty struct {
	name  string
	turn  func(d *draft)
	code  api.Errno
	ack   string
	words string
	told  bool // its control ID is told
}

func put(name string, field int, text string) func(d *draft) {
	return func(d *draft) { d.field(d.at(name), field, text) }
}

// faults are the refusals of Parse in the order in which they are looked at.
func faults() []faulty {
	many := func(d *draft) {
		for range 8 {
			d.segments = append(d.segments, d.segments[3:6]...)
		}
	}
	return []faulty{
		{"too long", func(d *draft) { d.segments = append(d.segments, []string{"NTE", strings.Repeat("x", 16384)}) }, api.ErrFeedLong, "AR", "too long", false},
		{"head", func(d *draft) { d.marks = "|^~^&" }, api.ErrFeedHead, "AR", "no header", false},
		{"short segment", func(d *draft) { d.segments = append(d.segments, []string{"AB"}) }, api.ErrFeedSegment, "AR", "segment", false},
		{"escape in the control ID", put("MSH", 10, "4\\"), api.ErrFeedEscape, "AR", "escape", false},
		{"no control ID", put("MSH", 10, ""), api.ErrFeedControl, "AR", "no control ID", false},
		{"kind", put("MSH", 9, "ORM^O02"), api.ErrFeedKind, "AR", "not served", true},
		{"version", put("MSH", 12, "2.6"), api.ErrFeedKind, "AR", "not served", true},
		{"use", put("MSH", 11, ""), api.ErrFeedKind, "AR", "not served", true},
		{"character set", put("MSH", 18, "8859/3"), api.ErrFeedCharset, "AE", "character set", true},
		{"layout", func(d *draft) { d.segments[2][0] = "PID" }, api.ErrFeedSegment, "AE", "segment", true},
		{"end", func(d *draft) { d.segments = append(d.segments, []string{"ORC", "NW"}) }, api.ErrFeedSegment, "AE", "segment", true},
		{"verb", put("ORC", 1, "SC"), api.ErrFeedVerb, "AE", "order control", true},
		{"many", many, api.ErrFeedMany, "AE", "too many orders", true},
		{"patient", put("PID", 3, ""), api.ErrFeedValue, "AE", "value", true},
		{"text", put("PID", 5, "\xff"), api.ErrFeedText, "AE", "text", true},
		{"escape", put("PV1", 3, "\\Q\\"), api.ErrFeedEscape, "AE", "escape", true},
	}
}

// TestRefusals: each refusal's number, code, words and control ID; of two the one that is looked at first.
func TestRefusals(t *testing.T) {
	list := faults()
	for i, a := range list {
		for _, b := range list[i:] {
			d := cut(whole)
			b.turn(d)
			if a.name != b.name {
				a.turn(d)
			}
			text := d.text()
			what := a.name + " and " + b.name
			wantParse(t, what, text)
			got, err := feed.Parse(text)
			f, ok := err.(*api.Fault)
			want := api.Order{Code: a.ack, Words: a.words}
			if a.told {
				want.Control = "42"
			}
			// What makes a message too long or another one a layout may hide behind what stands ahead of it.
			if a.name == "layout" && b.name == "end" || a.name == "verb" && b.name == "many" {
				continue
			}
			if !ok || f.Err != error(a.code) || !same(got, want) {
				t.Errorf("P11.4: %s: %s, %v", what, shown(got), err)
			}
		}
	}
}

// TestControl: which control IDs may be.
func TestControl(t *testing.T) {
	with := func(text string) string { return strings.Replace(whole, "|42|", "|"+text+"|", 1) }
	for n := range 25 {
		id := strings.Repeat("x", n)
		wantParse(t, "P11.4, 3", with(id))
		_, err := feed.Parse(with(id))
		if (n >= 1 && n <= api.MaxControl) != (err == nil) {
			t.Errorf("P11.4, 3: a control ID of %d bytes: %v", n, err)
		}
		wantParse(t, "P11.4, 3", with(strings.Repeat("\\T\\", n)))
	}
	for c := range 256 {
		b := string([]byte{byte(c)})
		for _, id := range []string{b, "a" + b, b + "a", fmt.Sprintf("a\\X%02x\\", c)} {
			wantParse(t, "P11.4, 3", with(id))
		}
		got, err := feed.Parse(with(fmt.Sprintf("a\\X%02X\\", c)))
		if may := c >= 0x20 && c <= 0x7E; may != (err == nil) || may && got.Control != "a"+b {
			t.Errorf("P11.4, 3: the byte %02x: %q, %v", c, got.Control, err)
		}
	}
	for text, want := range map[string]string{" 4 ": " 4 ", "4^5": "4", "4&5^6": "4", "4~5": "4", "4&~\\": "4", "\\S\\": "^", "\\E\\": "\\"} {
		if got, err := feed.Parse(with(text)); got.Control != want || err != nil {
			t.Errorf("P11.4, 3: %q: %q, %v", text, got.Control, err)
		}
	}
}

// TestKind: which kinds, versions and uses are served, as they stand.
func TestKind(t *testing.T) {
	texts := []string{"", " ", "ORM", "O01", "ORM^O01", "ORM^O01^ORM_O01", "ORM^O01&x", "ORM&x^O01~y", "ORM^O01 ", "orm^o01", "O01^ORM", "ORM^O02", "ORU^O01", "^ORM^O01", "ORM\\S\\O01", "\\X4F\\RM^O01",
		"2.1", "2.2", "2.3", "2.3.1", "2.4", "2.5", "2.5.1", "2.6", "2.0", "2", "2.3.2", "2.3 ", " 2.3", "2.3^x", "2.3&x", "2.3~x", "2.3.1.", "2.5.1.1", "2.1 2.2", "2\\X2E\\3",
		"P", "T", "D", "PT", "p", "X", "P^T", "P&x", "P~x", "P ", "\\X50\\", "P T"}
	served := map[int]string{9: "ORM^O01 ORM^O01^ORM_O01 ORM^O01&x ORM&x^O01~y", 11: "P T D P^T P&x P~x", 12: "2.1 2.2 2.3 2.3.1 2.4 2.5 2.5.1 2.3^x 2.3&x 2.3~x"}
	for field, list := range served {
		for _, text := range texts {
			d := cut(whole)
			d.field(0, field, text)
			wantParse(t, "P11.4, 4", d.text())
			_, err := feed.Parse(d.text())
			if may := isOneOf(" "+list+" ", text); may != (err == nil) || !may && !is(err, api.ErrFeedKind, 0) {
				t.Errorf("P11.4, 4: MSH-%d %q: %v", field, text, err)
			}
		}
	}
}

// TestCharsets: which character sets are known, and what every byte is in each.
func TestCharsets(t *testing.T) {
	samples := map[string]string{"": "A", "ASCII": "A", "8859/1": "\xe9", "8859/2": "\xb3", "8859/5": "\xbb", "8859/7": "\xc1", "8859/9": "\xdd", "UNICODE UTF-8": "\xe2\x82\xac"}
	meant := map[string]string{"": "A", "ASCII": "A", "8859/1": "é", "8859/2": "ł", "8859/5": "Л", "8859/7": "Α", "8859/9": "İ", "UNICODE UTF-8": "€"}
	for name, sample := range samples {
		d := cut(whole)
		d.field(0, 18, name)
		d.field(1, 5, sample)
		if got, err := feed.Parse(d.text()); err != nil || got.Steps[0].PatientName != meant[name] {
			t.Errorf("P11.4, 5: %s: %s, %v", name, shown(got), err)
		}
		for c := range 256 {
			b := string([]byte{byte(c)})
			for _, text := range []string{"a" + b + "b", fmt.Sprintf("a\\X%02x\\b", c), b, fmt.Sprintf("\\X%02x\\", c)} {
				d.field(1, 5, "Doe")
				d.component(d.at("OBR"), 4, 2, text)
				wantParse(t, "P11.6, "+name, d.text())
				d.component(d.at("OBR"), 4, 2, "")
				d.component(1, 5, 2, text)
				wantParse(t, "P11.6, "+name, d.text())
			}
		}
	}
	for _, name := range []string{"ASCII ", "ascii", "8859/3", "8859/8", "8859/15", "8859/", "UTF-8", "UNICODE", "UNICODE UTF-16", "8859\\X2F\\1", "ISO_IR 100", " "} {
		d := cut(whole)
		d.field(0, 18, name)
		if got, err := feed.Parse(d.text()); !is(err, api.ErrFeedCharset, 0) || got.Code != "AE" || got.Control != "42" {
			t.Errorf("P11.4, 5: %q: %s, %v", name, shown(got), err)
		}
		wantParse(t, "P11.4, 5", d.text())
	}
	for _, name := range []string{"8859/1~UNICODE UTF-8", "8859/1^x", "8859/1&x", "~8859/1"} {
		d := cut(whole)
		d.field(0, 18, name)
		wantParse(t, "P11.4, 5", d.text())
	}
}

// TestEscapedText: escapes are read ahead of the character set, so that they may say bytes of one rune.
func TestEscapedText(t *testing.T) {
	d := cut(whole)
	d.field(0, 18, "UNICODE UTF-8")
	d.field(1, 5, "M\\XC3BC\\ller^\\XC3\\\\XA9\\\\F\\")
	got, err := feed.Parse(d.text())
	if err != nil || got.Steps[0].PatientName != "Müller^é|" {
		t.Errorf("P11.6: %s, %v", shown(got), err)
	}
}

// TestLayout: all short lists of segments behind the header.
func TestLayout(t *testing.T) {
	lines := strings.SplitAfter(patient+visit+group, "\r")[:5]
	lines = append(lines, head, "NTE|1\r", "ID|\r")
	var walk func(text string, left int)
	walk = func(text string, left int) {
		wantParse(t, "P11.5", text)
		if left == 0 {
			return
		}
		for _, line := range lines {
			walk(text+line, left-1)
		}
	}
	walk(head, 4)
	walk(head+patient+"NTE\r", 4)
	walk(whole, 4)
}

// TestLayoutPlaces: where a segment is told that may not stand there, or is missing, by hand.
func TestLayoutPlaces(t *testing.T) {
	orc, obr, zds := strings.SplitAfter(group, "\r")[0], strings.SplitAfter(group, "\r")[1], strings.SplitAfter(group, "\r")[2]
	for _, c := range []struct {
		text string
		at   int
	}{
		{head, 1}, {head + "NTE\rNTE\r", 3}, {head + patient, 2}, {head + patient + visit + "NTE\r", 4}, {head + patient + orc, 3}, {head + patient + orc + "NTE\r\r\n", 4},
		{head + visit + patient + group, 1}, {head + orc + obr, 1}, {head + patient + visit + visit + group, 3}, {head + patient + patient + group, 2}, {head + patient + obr + orc, 2},
		{head + patient + zds + group, 2}, {head + patient + orc + orc + obr, 3}, {head + patient + orc + zds + obr, 3}, {head + patient + orc + obr + obr, 4}, {head + patient + group + zds, 5},
		{head + patient + group + visit, 5}, {head + patient + group + patient, 5}, {head + patient + group + head, 5}, {head + head + patient + group, 1}, {head + patient + group + "NTE\rMSH\r", 6}, {head + patient + group + orc, 6},
		{head + patient + orc + "OBX|1\r", 4}, {head + patient + "NTE\r\r\r" + zds, 3},
	} {
		if _, err := feed.Parse(c.text); !is(err, api.ErrFeedSegment, c.at) {
			t.Errorf("P11.5: %q: %v, want at %d", c.text, err, c.at)
		}
		wantParse(t, "P11.5", c.text)
	}
	if got, err := feed.Parse("\n" + strings.ReplaceAll(head+"ZZZ|^\r"+patient+"NTE|1\r"+visit+"AL1\r"+orc+"NTE\r"+obr+"OBX\r"+zds+"IDX||\r", "\r", "\r\n")); err != nil || !same(got, order()) {
		t.Errorf("P11.5: segments of other names: %s, %v", shown(got), err)
	}
}

// TestVerbs: what a message may ask for, as it stands, and that all its groups ask for one thing.
func TestVerbs(t *testing.T) {
	texts := []string{"NW", "XO", "CA", "", "SC", "nw", "NW ", " NW", "NW^x", "NW&x", "XO~NW", "\\X4E\\W", "NWXO", "NW XO"}
	served := " NW XO CA NW^x NW&x XO~NW "
	for _, a := range texts {
		d := cut(whole)
		d.field(d.at("ORC"), 1, a)
		_, err := feed.Parse(d.text())
		if may := isOneOf(served, a); may != (err == nil) || !may && !is(err, api.ErrFeedVerb, 3) {
			t.Errorf("P11.5: ORC-1 %q: %v", a, err)
		}
		for _, b := range texts {
			for _, c := range texts {
				text := d.text()
				for i, verb := range []string{b, c} {
					e := cut(head + patient + strings.Replace(group, "S1", fmt.Sprint("T", i), 1))
					e.field(e.at("ORC"), 1, verb)
					text += e.text()[len(head+patient):]
				}
				wantParse(t, "P11.5", text)
			}
		}
	}
	other := strings.Replace(group, "ORC|NW", "ORC|CA", 1)
	if _, err := feed.Parse(whole + other); !is(err, api.ErrFeedVerb, 6) {
		t.Errorf("P11.5: two verbs: %v", err)
	}
}

// TestMany: as many groups as there may be, and more.
func TestMany(t *testing.T) {
	text := head + patient + "NTE\r"
	for i := 1; i <= 11; i++ {
		ahead := text
		text += strings.Replace(group, "S1", fmt.Sprint("T", i), 1)
		wantParse(t, "P11.5", text)
		got, err := feed.Parse(text)
		if i <= api.MaxGroup && (err != nil || len(got.Steps) != i || got.Steps[i-1].ID != fmt.Sprint("T", i)) || i > api.MaxGroup && !is(err, api.ErrFeedMany, 3+8*3) {
			t.Errorf("P11.5: %d groups: %v", i, err)
		}
		cancel := strings.ReplaceAll(text, "ORC|NW", "ORC|CA")
		wantParse(t, "P11.5", cancel)
		if got, err := feed.Parse(cancel); i <= api.MaxGroup && (err != nil || len(got.IDs) != i) || i > api.MaxGroup && !is(err, api.ErrFeedMany, 27) {
			t.Errorf("P11.5: %d groups: %v", i, err)
		}
		verb := ahead + strings.Replace(group, "ORC|NW", "ORC|SC", 1)
		if _, err := feed.Parse(verb); !is(err, api.ErrFeedVerb, 3+3*(i-1)) {
			t.Errorf("P11.5: a wrong verb in group %d: %v", i, err)
		}
	}
}

// TestLong: a message at the limit is read, and one beyond it is refused ahead of all else.
func TestLong(t *testing.T) {
	full := whole + "NTE|" + strings.Repeat("x", api.MaxMessage-len(whole)-4)
	if got, err := feed.Parse(full); err != nil || !same(got, order()) {
		t.Errorf("P11.4, 1: %v", err)
	}
	for _, text := range []string{full + "x", full + "\r", "X" + full, strings.Repeat("x", api.MaxMessage+1), strings.Repeat("\r", 1<<20)} {
		if got, err := feed.Parse(text); !is(err, api.ErrFeedLong, 0) || !same(got, api.Order{Code: "AR", Words: "too long"}) {
			t.Errorf("P11.4, 1: %d bytes: %s, %v", len(text), shown(got), err)
		}
	}
}

// TestOtherMarks: the marks that a message names are those that it is read by.
func TestOtherMarks(t *testing.T) {
	turn := strings.NewReplacer("|", "#", "^", "!", "~", "$", "\\", "%", "&", "'")
	d := cut(whole)
	d.component(1, 5, 2, "J\\S\\\\F\\\\T\\\\R\\&x")
	if got, err := feed.Parse(turn.Replace(d.text())); err != nil || got.Steps[0].PatientID != "P1" || got.Steps[0].PatientName != "Doe^J!#'$^Q^Dr^Jr" {
		t.Errorf("P11.6: %s, %v", shown(got), err)
	}
	wantParse(t, "P11.6", turn.Replace(d.text()))
	d.component(1, 5, 2, "|^~")
	wantParse(t, "P11.6", turn.Replace(d.text()))
}

// TestParseAny: messages with a few bytes changed, held against the second reader.
func TestParseAny(t *testing.T) {
	r := rand.New(rand.NewSource(4))
	second := strings.Replace(group, "S1", "S2", 1)
	for _, text := range []string{whole, whole + second, strings.ReplaceAll(whole+second, "ORC|NW", "ORC|CA"), strings.Replace(whole, "2.3.1\r", "2.3.1||||||UNICODE UTF-8\r", 1), strings.Replace(whole, "2.3.1\r", "2.3.1||||||8859/7\r", 1)} {
		for i := range text {
			wantParse(t, "a byte taken away", text[:i]+text[i+1:])
			wantParse(t, "a byte twice", text[:i]+text[i:i+1]+text[i:])
			wantParse(t, "cut off", text[:i])
		}
		for range 8000 {
			wantParse(t, "spoilt", spoilt(r, text))
		}
	}
}
