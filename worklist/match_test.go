package worklist_test

import (
	"testing"

	"modality/api"
	"modality/worklist"
)

func TestMatchesExamples(t *testing.T) {
	s := s1()
	wantMatch(t, s, nil, true)
	wantMatch(t, s, list(el(api.TagPatientName, "doe*"), steps(el(api.TagModality, "CT"), el(api.TagStepID, ""))), true)
	wantMatch(t, s, list(el(api.TagSteps, "")), true)
	wantMatch(t, s, list(api.Node{Tag: api.TagSteps, VR: api.VRSQ, N: 2}, item(0), item(0)), false)
	wantMatch(t, s, when("20260104-20260105", "1800-0800"), false)
	wantMatch(t, s, when("20260104-20260105", "0800-1000"), true)
	wantMatch(t, s, when("20260104-20260105", "0930"), true)
	wantMatch(t, s, when("20260105", "1000-0900"), false)
	wantMatch(t, s, list(el(api.TagModality, "MR")), true)
	wantMatch(t, s, steps(el(api.TagStepStatus, "SCHEDULED")), true)
	wantMatch(t, s, steps(el(api.TagStepStatus, "S*")), true)
	wantMatch(t, s, list(el(api.TagBirthDate, "2026")), false)
}

// TestMatchesFields: each known key is held against its own field, and against no other.
func TestMatchesFields(t *testing.T) {
	for place, table := range []string{topTable, stepTable} {
		for _, l := range linesOf(table) {
			if l.isSequence() {
				continue
			}
			keys := list(el(l.tag, l.text(full())))
			elsewhere := steps(keys...)
			if place == 1 {
				keys, elsewhere = elsewhere, keys
			}
			other := map[api.VR]string{api.VRDA: "18000101", api.VRTM: "0101"}[l.vr] + "9"
			if len(other) > 1 {
				other = other[:len(other)-1]
			}
			wantMatch(t, full(), keys, true)
			wantMatch(t, full(), elsewhere, true)
			for _, field := range fieldsOf() {
				s := full()
				set(&s, field, other)
				wantMatch(t, s, keys, field != l.field)
				wantMatch(t, s, elsewhere, true)
			}
			s := full()
			s.Status = api.StepStarted
			wantMatch(t, s, keys, l.field != "Status")
		}
	}
}

// TestMatchesRules: what layer 5 says of each VR holds here.
func TestMatchesRules(t *testing.T) {
	s := full()
	for _, c := range []struct {
		keys []api.Node
		want bool
	}{
		{list(el(api.TagPatientName, "doe^jane*")), true},
		{list(el(api.TagPatientName, "=A")), true},
		{list(el(api.TagPatientName, "=c")), false},
		{list(el(api.TagPatientID, "p1")), false},
		{list(el(api.TagPatientID, "P?")), true},
		{list(el(api.TagProcedureDesc, "Sch?del")), true},
		{list(el(api.TagStudyUID, `1.2\1.2.3`)), true},
		{list(el(api.TagStudyUID, "1.2*")), false},
		{list(el(api.TagBirthDate, "19691231-19700101")), true},
		{list(el(api.TagBirthDate, "-19691231")), false},
		{list(el(api.TagSex, "*")), true},
		{steps(el(api.TagStartTime, "12-1200")), true},
		{steps(el(api.TagStartTime, "1201-")), false},
		{steps(el(api.TagStartTime, "120060")), true},
		{steps(el(api.TagStationAE, "SCAN*")), true},
		{steps(el(api.TagStationAE, `SCAN 1\X`)), false},
		{list(el(api.TagPatientID, "P1"), steps(el(api.TagModality, "CT"))), false},
		{list(el(api.TagPatientID, "P2"), steps(el(api.TagModality, "MR"))), false},
		{list(el(api.TagPatientID, "P1"), steps(el(api.TagModality, "MR")), el(api.TagProcedureID, "RP1")), true},
		{list(el(api.TagPatientID, "P1"), steps(el(api.TagModality, "MR")), el(api.TagProcedureID, "RP2")), false},
	} {
		wantMatch(t, s, c.keys, c.want)
	}
	several := s
	several.Station, several.Modality = `CT1\CT2`, `CT\MR`
	wantMatch(t, several, steps(el(api.TagStationAE, "CT2")), true)
	wantMatch(t, several, steps(el(api.TagModality, "MR"), el(api.TagStationAE, "CT1")), true)
	wantMatch(t, several, steps(el(api.TagModality, "PT")), false)
}

// TestMatchesEmpty: a step without a text matches a key without a value, and a wildcard that holds of nothing.
func TestMatchesEmpty(t *testing.T) {
	none := api.Step{}
	for place, table := range []string{topTable, stepTable} {
		for _, l := range linesOf(table) {
			if l.isSequence() {
				continue
			}
			at := func(value string) []api.Node {
				if place == 1 {
					return steps(el(l.tag, value))
				}
				return list(el(l.tag, value))
			}
			wantMatch(t, none, at(""), true)
			switch l.vr {
			case api.VRDA:
				wantMatch(t, none, at("00010101-"), false)
			case api.VRTM:
				wantMatch(t, none, at("00-"), false)
			case api.VRUI:
				wantMatch(t, none, at("*"), false)
			default:
				wantMatch(t, none, at("*"), true)
				wantMatch(t, none, at("?"), false)
			}
		}
	}
}

// TestMatchesWhen goes over all small ranges of days and times, one or not, and all small steps.
func TestMatchesWhen(t *testing.T) {
	days := []string{"20260104", "20260105", "20260106"}
	times := []string{"09", "0930", "093000.5", "095960.999999", "10"}
	dayKeys := ranges(append(days, "2026", "x"))
	timeKeys := ranges(append(times, "25", "x", "10-11"))
	stepDays := append(days, "", "2026", "20260230", `20260104\20260105`, "20260104-")
	stepTimes := append(times, "0959", "0960", "", "24", `09\10`, "093000", "09-")
	hits := 0
	for _, day := range dayKeys {
		for _, time := range timeKeys {
			keys := when(day, time)
			wantLook(t, day+" "+time, keys, modelLook(keys))
			var all []api.Step
			for _, d := range stepDays {
				for _, c := range stepTimes {
					all = append(all, at(d, c))
				}
			}
			answers, _, _, _ := worklist.Find(all, list(el(api.TagAccession, ""), keys))
			want := 0
			for _, s := range all {
				hit := modelMatches(s, keys)
				if hit {
					want++
				}
				if worklist.Matches(s, keys) != hit {
					t.Fatalf("P13.3: %s %s and %q, %q: %v", s.Date, s.Time, day, time, !hit)
				}
			}
			if len(answers) != want {
				t.Fatalf("P13.5: %q, %q: %d answers, not %d", day, time, len(answers), want)
			}
			hits += want
		}
	}
	if hits < 1000 {
		t.Errorf("only %d hits", hits)
	}
}

// ranges gives no text, each of some texts, and all ranges of these with open ends too.
func ranges(texts []string) []string {
	all := append([]string{""}, texts...)
	for _, a := range append(texts, "") {
		for _, b := range append(texts, "") {
			all = append(all, a+"-"+b)
		}
	}
	return all
}

// TestMatchesEdges: the first tick and the last of a range of day and time, and the ones beside them.
func TestMatchesEdges(t *testing.T) {
	for _, c := range []struct {
		day, time string
		in, out   [][2]string
	}{
		// The document's: from the fifth, 18:00, to the seventh, 08:59:60.999999.
		{"20260105-20260107", "18-08", [][2]string{{"20260105", "18"}, {"20260105", "1800"}, {"20260106", "00"}, {"20260106", "235960"}, {"20260107", "00"}, {"20260107", "085960.999999"}}, [][2]string{{"20260105", "175960.999999"}, {"20260105", "17"}, {"20260105", ""}, {"20260107", "09"}, {"20260104", "20"}, {"20260108", "00"}}},
		{"20260105-20260107", "-08", [][2]string{{"20260105", "00"}, {"20260107", "0859"}}, [][2]string{{"20260104", "235960.999999"}, {"20260107", "0900"}}},
		{"20260105-20260107", "18-", [][2]string{{"20260105", "18"}, {"20260107", "235960.999999"}}, [][2]string{{"20260105", "175960.999999"}, {"20260108", "00"}}},
		{"20260105-", "18-08", [][2]string{{"20260105", "18"}, {"99991231", "23"}}, [][2]string{{"20260105", "1759"}, {"00010101", "19"}}},
		{"20260105-", "-08", [][2]string{{"20260105", "00"}, {"20260105", "12"}}, [][2]string{{"20260104", "07"}}},
		{"-20260107", "18-08", [][2]string{{"00010101", "00"}, {"20260107", "0800"}}, [][2]string{{"20260107", "0900"}, {"20260108", "07"}}},
		{"-20260107", "18-", [][2]string{{"00010101", "00"}, {"20260107", "235960"}}, [][2]string{{"20260108", "00"}}},
		{"20260105-20260105", "10-09", nil, [][2]string{{"20260105", "09"}, {"20260105", "0930"}, {"20260105", "10"}, {"20260105", "11"}}},
		{"20260105-20260105", "0930-0930", [][2]string{{"20260105", "0930"}, {"20260105", "093060.999999"}}, [][2]string{{"20260105", "0929"}, {"20260105", "0931"}, {"20260105", "09"}}},
		{"20241231-20250101", "2359-00", [][2]string{{"20241231", "235960.999999"}, {"20250101", "00"}, {"20250101", "005960"}}, [][2]string{{"20241231", "2358"}, {"20250101", "01"}}},
		{"00010101-99991231", "000000.000000-235960.999999", [][2]string{{"00010101", "00"}, {"99991231", "235960.999999"}}, [][2]string{{"", "00"}, {"00010101", ""}, {"00000101", "00"}}},
	} {
		for _, s := range c.in {
			wantMatch(t, at(s[0], s[1]), when(c.day, c.time), true)
		}
		for _, s := range c.out {
			wantMatch(t, at(s[0], s[1]), when(c.day, c.time), false)
		}
	}
}

// TestMatchesBesides: beside a day and time that are one the other keys restrict as ever.
func TestMatchesBesides(t *testing.T) {
	span := list(el(api.TagStartDate, "20260104-20260106"), el(api.TagStartTime, "18-08"))
	keys := func(modality, id, name string) []api.Node {
		return list(el(api.TagPatientName, name), steps(append(append(list(el(api.TagModality, modality)), span...), el(api.TagStepID, id))...))
	}
	wantMatch(t, s1(), keys("CT", "S1", "doe*"), true)
	wantMatch(t, s1(), keys("MR", "S1", "doe*"), false)
	wantMatch(t, s1(), keys("CT", "S2", "doe*"), false)
	wantMatch(t, s1(), keys("CT", "S1", "roe*"), false)
	// What stands at the top level, or further in, is no part of it.
	top := list(el(api.TagStartDate, "20260104-"), el(api.TagStartTime, "18-08"))
	wantMatch(t, s1(), top, true)
	wantMatch(t, at("", ""), top, true)
	wantMatch(t, s1(), list(el(api.TagStartDate, "20260101-20260102"), steps(el(api.TagStartTime, "09-10"))), true)
	wantMatch(t, s1(), list(el(api.TagStartTime, "11-10"), steps(el(api.TagStartDate, "20260105-"))), true)
}
