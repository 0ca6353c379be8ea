package feed_test

import (
	"fmt"
	"strings"
	"testing"

	"modality/api"
	"modality/feed"
)

// spot is a component that a row reads.
type spot struct {
	row       tableRow
	component int
}

func spots() (list []spot) {
	for _, r := range allRows {
		for c := range r.components() {
			list = append(list, spot{r, r.component + c})
		}
	}
	return list
}

// put puts a text into the spot of a draft.
func (s spot) put(d *draft, text string) {
	d.component(d.at(s.row.segment), s.row.field, s.component, text)
}

// TestValues: what each component may be.
func TestValues(t *testing.T) {
	texts := []string{
		"", " ", "x", " x ", "  ", "\\E\\", "a\\E\\b", "\\Q\\", "\\", "\xff", "\t", "\\X0D\\", "\\X09\\", "\\X20\\x\\X20\\", "\\X5C\\", "^", "~", "&", "x&y", "x~y", "&y", "~y", "~\\", "&\\", "\\S\\", "=", "a=b",
		"M", "F", "O", "U", "m", "MF", " M ", "UU", "19700230", "19700228", "197002281", "1970022", "19700228x", "19700228\\E\\", "19700228120000", "00000101", "00010101", "99991231", " 19700228 x",
		"1234567890123456", "12345678901234567", " 1234567890123456 ", "202402301200", "202402291200", "20240229120", "2024022912", "20240229", "20240229126000", "20240229125960", "20240229125961", "20240229240000", "2024022912000", "202402291200001", "20240229120000.5", "202402291200+0100", " 202402291200 ", "20240229 1200", "2024-02-29",
		strings.Repeat("n", 64), strings.Repeat("n", 65), strings.Repeat("v", 5000),
	}
	for _, s := range spots() {
		for _, text := range texts {
			d := cut(whole)
			s.put(d, text)
			wantParse(t, fmt.Sprintf("P11.6, %s", s.row.name), d.text())
			d.field(0, 18, "UNICODE UTF-8")
			wantParse(t, fmt.Sprintf("P11.6, %s", s.row.name), d.text())
		}
	}
}

// TestNeeded: what is needed and what may be missing, as a field and as a whole segment.
func TestNeeded(t *testing.T) {
	needed := " PatientID PatientName ID Procedure Modality Station Date Study "
	at := map[string]int{"PID": 1, "PV1": 2, "ORC": 3, "OBR": 4, "ZDS": 5}
	for _, s := range spots() {
		if s.component != s.row.component {
			continue
		}
		for _, text := range []string{"", " ", "~x", "&x", "   "} {
			d := cut(whole)
			for c := range s.row.components() {
				d.component(d.at(s.row.segment), s.row.field, s.row.component+c, "")
			}
			if !strings.Contains(text, "~") || s.component == 1 {
				s.put(d, text)
			}
			_, err := feed.Parse(d.text())
			if isOneOf(needed, s.row.name) != (err != nil) || err != nil && !is(err, api.ErrFeedValue, at[s.row.segment]) {
				t.Errorf("P11.6: %s %q: %v", s.row.name, text, err)
			}
		}
	}
	d := cut(head + patient + group)
	d.segments = d.segments[:4]
	if _, err := feed.Parse(d.text()); !is(err, api.ErrFeedValue, 2) {
		t.Errorf("P11.6: no ZDS: %v", err)
	}
	if _, err := feed.Parse(whole + strings.Replace(strings.Replace(group, "S1", "S2", 1), "ZDS", "ZDX", 1)); !is(err, api.ErrFeedValue, 6) {
		t.Errorf("P11.6: no ZDS in the second group: %v", err)
	}
	if _, err := feed.Parse(whole + "ORC|NW\rNTE\rOBR||||||||||||||||||||S2\r"); !is(err, api.ErrFeedValue, 8) {
		t.Errorf("P11.6: a second group without a procedure: %v", err)
	}
}

// TestFlaws: of every two components with something wrong in them, the one that is looked at first is told.
func TestFlaws(t *testing.T) {
	flaws := []string{"\\Q\\", "\xff", "a\\E\\b", "", "=x", strings.Repeat("x", 70)}
	list := spots()
	for i, a := range list {
		for _, b := range list[i+1:] {
			for _, first := range flaws {
				for _, second := range flaws {
					d := cut(whole)
					a.put(d, first)
					b.put(d, second)
					wantParse(t, a.row.name+" and "+b.row.name, d.text())
				}
			}
		}
	}
}

// TestOneComponent: of one component escapes come ahead of the text, that ahead of a backslash, that ahead of its form.
func TestOneComponent(t *testing.T) {
	for _, c := range []struct {
		text string
		code api.Errno
	}{{"\\E\\\xff\\Q\\", api.ErrFeedEscape}, {"\\E\\\xff", api.ErrFeedText}, {"\xff\\", api.ErrFeedEscape}, {"\\E\\", api.ErrFeedValue}, {"\\X1B\\", api.ErrFeedText}, {"\\X7F\\", api.ErrFeedText}, {"\x01", api.ErrFeedText}} {
		for _, s := range spots() {
			d := cut(whole)
			s.put(d, c.text)
			if _, err := feed.Parse(d.text()); !is(err, c.code, d.at(s.row.segment)) {
				t.Errorf("P11.6: %s %q: %v", s.row.name, c.text, err)
			}
		}
	}
	// Of a name the pieces come ahead of what the whole may be: the missing family's comes last.
	for _, s := range spots() {
		if s.row.components() == 5 && s.component != s.row.component {
			d := cut(whole)
			s.put(d, "\xff")
			d.component(d.at(s.row.segment), s.row.field, s.row.component, "")
			if _, err := feed.Parse(d.text()); !is(err, api.ErrFeedText, d.at(s.row.segment)) {
				t.Errorf("P11.6: %s: %v", s.row.name, err)
			}
		}
	}
	// Of two values in one field the first is looked at to its end.
	for _, c := range []struct {
		name  string
		field int
		other int
	}{{"PID", 3, 4}, {"OBR", 21, 2}} {
		d := cut(whole)
		d.component(d.at(c.name), c.field, 1, "")
		d.component(d.at(c.name), c.field, c.other, "\xff")
		if _, err := feed.Parse(d.text()); !is(err, api.ErrFeedValue, d.at(c.name)) {
			t.Errorf("P11.6: %s-%d: %v", c.name, c.field, err)
		}
	}
}

// TestNames: the pieces' places, a name without a family's, one that is too long as a whole.
func TestNames(t *testing.T) {
	for _, c := range []struct {
		name  string
		field int
		from  int
		at    int
		get   func(s api.Step) string
	}{
		{"PID", 5, 1, 1, func(s api.Step) string { return s.PatientName }},
		{"PV1", 8, 2, 2, func(s api.Step) string { return s.Referrer }},
		{"OBR", 34, 2, 4, func(s api.Step) string { return s.Performer }},
	} {
		for text, want := range map[string]string{
			"F^G^M^S^P": "F^G^M^P^S", "F": "F", "F^^^S": "F^^^^S", "F^^^^P": "F^^^P", " F ^ G ": "F^G", "F^G^M^S^P^x^y": "F^G^M^P^S", "F~H": "F", "F&x^G&y": "F^G",
			"^G": "?", " ^G": "?", "^^^^P": "?", "F^a=b": "?", "F\\S\\": "?", strings.Repeat("n", 62) + "^a": strings.Repeat("n", 62) + "^a", strings.Repeat("n", 62) + "^ab": "?", strings.Repeat("n", 61) + "^^^S": "?", strings.Repeat("n", 61) + "^^^^P": "?", strings.Repeat("n", 60) + "^^^^P": strings.Repeat("n", 60) + "^^^P",
		} {
			d := cut(whole)
			if c.from == 2 {
				text = "id^" + text
			}
			d.field(d.at(c.name), c.field, text)
			got, err := feed.Parse(d.text())
			if want == "?" && !is(err, api.ErrFeedValue, c.at) || want != "?" && (err != nil || c.get(got.Steps[0]) != want) {
				t.Errorf("P11.6: %s-%d %q: %s, %v", c.name, c.field, text, shown(got), err)
			}
			wantParse(t, "P11.6", d.text())
		}
	}
	d := cut(whole)
	d.field(d.at("PID"), 5, "")
	if _, err := feed.Parse(d.text()); !is(err, api.ErrFeedValue, 1) {
		t.Errorf("P11.6: no name at all: %v", err)
	}
}

// TestTwice: two groups with one ID, told as soon as it is read, also where spaces part them and in a cancellation.
func TestTwice(t *testing.T) {
	third := strings.Replace(strings.Replace(group, "S1", "S3", 1), "|MR|", "||", 1)
	for _, c := range []struct {
		text string
		at   int
	}{
		{whole + group, 7},
		{whole + strings.Replace(group, "|S1|", "| S1 |", 1), 7},
		{whole + strings.Replace(strings.Replace(group, "|A1|", "|\\Q\\|", 1), "Head", "\xff", 1), 7},
		{whole + strings.Replace(group, "S1", "S2", 1) + strings.Replace(group, "S1", "S2", 1), 10},
		{whole + strings.Replace(group, "S1", "S2", 1) + group + third, 10},
		{whole + third + group, 7},
		{strings.ReplaceAll(whole+"NTE\r"+group, "ORC|NW", "ORC|CA"), 8},
	} {
		if _, err := feed.Parse(c.text); !is(err, api.ErrFeedValue, c.at) {
			t.Errorf("P11.6: %q: %v, want at %d", c.text, err, c.at)
		}
		wantParse(t, "P11.6", c.text)
	}
	if got, err := feed.Parse(whole + strings.Replace(group, "S1", "s1", 1)); err != nil || len(got.Steps) != 2 {
		t.Errorf("P11.6: two IDs: %v", err)
	}
}

// TestCancel: a cancellation's patient is looked at like all, of its groups the IDs alone.
func TestCancel(t *testing.T) {
	text := strings.Replace(whole, "ORC|NW", "ORC|CA", 1)
	for _, s := range spots() {
		for _, bad := range []string{"\\Q\\", "\xff", "a\\E\\b", ""} {
			d := cut(text)
			s.put(d, bad)
			wantParse(t, "P11.6", d.text())
			_, err := feed.Parse(d.text())
			looked := s.row.segment == "PID" || s.row.segment == "PV1" || s.row.name == "ID"
			if bad != "" && looked != (err != nil) {
				t.Errorf("P11.6: %s of a cancellation: %v", s.row.name, err)
			}
		}
	}
}

// TestDesc: a step without words of its own has the procedure's.
func TestDesc(t *testing.T) {
	for text, want := range map[string][2]string{"c^Head^L^x^Step": {"Head", "Step"}, "c^Head": {"Head", "Head"}, "c^ Head ^^^  ": {"Head", "Head"}, "c^^^^Step": {"", "Step"}, "": {"", ""}, "Head": {"", ""}, "^Head&x^^^&Step": {"Head", "Head"}} {
		d := cut(whole)
		d.field(d.at("OBR"), 4, text)
		if got, err := feed.Parse(d.text()); err != nil || got.Steps[0].ProcedureDesc != want[0] || got.Steps[0].Desc != want[1] {
			t.Errorf("P11.6: OBR-4 %q: %s, %v", text, shown(got), err)
		}
	}
}

// TestPatients: each step has the patient of the message, and its own values alone.
func TestPatients(t *testing.T) {
	second := "ORC|NW||||||^^^202402011300\rOBR|||||||||||||||||||RP2|S2|SCAN2|||CT\rZDS|1.2.4\r"
	want := order()
	s := want.Steps[0]
	want.Steps = append(want.Steps, api.Step{ID: "S2", Procedure: "RP2", Study: "1.2.4", PatientName: s.PatientName, PatientID: s.PatientID, Issuer: s.Issuer, Birth: s.Birth, Sex: s.Sex, Referrer: s.Referrer, Modality: "CT", Station: "SCAN2", Location: s.Location, Date: "20240201", Time: "130000", Status: api.StepScheduled})
	if got, err := feed.Parse(whole + second); err != nil || !same(got, want) {
		t.Errorf("P11.6: %s, %v\nwant %s", shown(got), err, shown(want))
	}
}

// TestUnread: what no row names is not looked at, whatever stands there, nor is what stands behind a first repetition or subcomponent.
func TestUnread(t *testing.T) {
	garbage := []string{"\\Q\\", "\xff", "a\\E\\b", "x"}
	read := map[string]bool{}
	for _, s := range spots() {
		read[fmt.Sprint(s.row.segment, s.row.field, s.component)] = true
		for _, text := range garbage {
			for _, mark := range []string{"&", "~"} {
				d := cut(whole)
				if s.row.components() == 5 && mark == "~" {
					continue // the first repetition would end in the name's midst
				}
				i := d.at(s.row.segment)
				if mark == "~" {
					d.field(i, s.row.field, d.segments[i][s.row.field]+mark+text)
				} else {
					s.put(d, strings.Split(d.segments[i][s.row.field], "^")[s.component-1]+mark+text)
				}
				if got, err := feed.Parse(d.text()); err != nil || !same(got, order()) {
					t.Errorf("P11.6: %s with %q: %s, %v", s.row.name, mark+text, shown(got), err)
				}
			}
		}
	}
	read[fmt.Sprint("ORC", 1, 1)] = true
	for i, fields := range cut(whole).segments {
		for field := 1; field < 40; field++ {
			for component := 1; component < 9; component++ {
				if i == 0 && (field < 3 || field >= 9 && field <= 12 && component < 3 || field == 18 && component == 1) || read[fmt.Sprint(fields[0], field, component)] {
					continue
				}
				for _, text := range garbage {
					d := cut(whole)
					d.component(i, field, component, text)
					if got, err := feed.Parse(d.text()); err != nil || !same(got, order()) {
						t.Errorf("P11.6: %s-%d component %d with %q: %s, %v", fields[0], field, component, text, shown(got), err)
					}
				}
			}
		}
	}
}
