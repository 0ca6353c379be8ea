package worklist_test

import (
	"testing"

	"modality/api"
)

func TestLookExamples(t *testing.T) {
	wantLook(t, "example 1", nil, taken)
	wantLook(t, "example 1, no nodes", []api.Node{}, taken)
	wantLook(t, "example 2", list(el(api.TagPatientName, "doe*"), steps(el(api.TagModality, "CT"), el(api.TagStepID, ""))), taken)
	wantLook(t, "example 3, no items", list(el(api.TagSteps, "")), taken)
	wantLook(t, "example 3, two items", list(api.Node{Tag: api.TagSteps, VR: api.VRSQ, N: 2}, item(0), item(0)), offends(api.TagSteps))
	wantLook(t, "example 4, one", when("20260104-20260105", "1800-0800"), taken)
	wantLook(t, "example 4, one time", when("20260104-20260105", "0930"), taken)
	wantLook(t, "example 4, one day", when("20260105", "1000-0900"), offends(api.TagStartTime))
	wantLook(t, "example 5", list(el(api.TagModality, "MR")), warned)
	wantLook(t, "example 6, a value", seq(0x00321064, el(api.TagCodeValue, "X")), warned)
	wantLook(t, "example 6, no value", seq(0x00321064, el(api.TagCodeValue, "")), taken)
	wantLook(t, "example 7", steps(el(api.TagStepStatus, "SCHEDULED")), taken)
	wantLook(t, "example 8, no day", list(el(api.TagBirthDate, "2026")), offends(api.TagBirthDate))
	wantLook(t, "example 8, hyphens", when("-", "-"), offends(api.TagStartDate))
}

// TestLookOrder: of several reasons the first of the document's holds.
func TestLookOrder(t *testing.T) {
	two := list(api.Node{Tag: api.TagSteps, VR: api.VRSQ, N: 2}, item(1), el(api.TagStartDate, "x"), item(0))
	wantLook(t, "not well formed, two items, a wrong value", list(el(api.TagBirthDate, "x"), two, el(api.TagBirthDate, "x")), offends())
	wantLook(t, "two items, wrong values", list(el(api.TagBirthDate, "x"), two), offends(api.TagSteps))
	wantLook(t, "wrong values", list(el(api.TagBirthDate, "x"), when("x", "x")), offends(api.TagBirthDate))
	wantLook(t, "wrong day and time", when("x", "x"), offends(api.TagStartDate))
	wantLook(t, "wrong day and time that are one", when("x-", "x-"), offends(api.TagStartDate))
	wantLook(t, "a wrong value and one that is not known", list(el(api.TagModality, "x"), when("", "x")), offends(api.TagStartTime))
	wantLook(t, "a wrong value and a node that is wrong", list(el(api.TagBirthDate, "x"), api.Node{Tag: api.TagProcedureID, VR: api.VRSH, N: 1}), offends())
	three := list(api.Node{Tag: api.TagSteps, VR: api.VRSQ, N: 3}, item(0), item(0), item(0))
	wantLook(t, "three items", three, offends(api.TagSteps))
}

// TestLookUnformed: keys that are no well-formed data set.
func TestLookUnformed(t *testing.T) {
	for _, keys := range [][]api.Node{
		{item(0)},
		{el(api.TagPatientName, "Doe ")},
		{{Tag: api.TagPatientName, VR: api.VRLO}},
		{{Tag: api.TagSteps, VR: api.VRSQ, N: 1}},
		{{Tag: api.TagSteps, VR: api.VRUN}},
		{{Tag: api.TagSteps, VR: api.VRSQ, N: -1}},
		{el(api.TagPatientID, ""), el(api.TagPatientName, "")},
		{el(api.TagPatientID, ""), el(api.TagPatientID, "")},
		{{Tag: 0x00000100, VR: api.VRUS}},
	} {
		wantLook(t, shown(keys), keys, offends())
		wantMatch(t, s1(), keys, false)
	}
}

// TestLookTimes: day and time that are one, each time by itself.
func TestLookTimes(t *testing.T) {
	times := map[string]bool{
		"10-11": true, "11-10": true, "10-": true, "-10": true, "-": false, "--": false, "10--": false, "10-11-": false, "-10-11": false, "10--11": false,
		"24-": false, "-24": false, "10-2460": false, "0960-10": false, "095960.999999-00": true, "095961-": false, "1-": false, "-1": false,
		"10:30-11": false, "10 -11": false, "10-x": false, "x-10": false, "235960-": true, "10.5-": false, "103000.5-": true, "103000.1234567-": false,
	}
	for key, good := range times {
		want := taken
		if !good {
			want = offends(api.TagStartTime)
		}
		for _, day := range []string{"20260105-", "-20260105", "20260104-20260105"} {
			wantLook(t, day+" and "+key, when(day, key), want)
		}
		wantLook(t, "a wrong day and "+key, when("20260105-20260104", key), offends(api.TagStartDate))
	}
}

// TestLookNotOne: where day and time are not one, the time is a key like any other.
func TestLookNotOne(t *testing.T) {
	backward := el(api.TagStartTime, "11-10")
	for _, keys := range [][]api.Node{
		steps(backward), when("", "11-10"), when("20260105", "11-10"),
		list(el(api.TagStartDate, "20260105-"), steps(backward)), // the day is not the step's
	} {
		wantLook(t, shown(keys), keys, offends(api.TagStartTime))
	}
	for _, time := range []string{"10-11", "10-", "-10", "", "10"} {
		wantLook(t, time, when("20260105", time), taken)
		wantLook(t, time, steps(el(api.TagStartTime, time)), taken)
	}
	wantLook(t, "the time is not the step's", list(el(api.TagStartTime, "11-10"), steps(el(api.TagStartDate, "20260105-"))), warned)
	wantLook(t, "nor in an item of the step's", list(api.Node{Tag: api.TagSteps, VR: api.VRSQ, N: 1}, item(2), el(api.TagStartDate, "20260105-"), seq(api.TagProtocolCodes, el(api.TagStartTime, "11-10"))), warned)
	wantLook(t, "the day may not be asked for", when("20260105-20260104", "10"), offends(api.TagStartDate))
}

// TestLookPlaces: every known attribute is known where it stands, and nowhere else.
func TestLookPlaces(t *testing.T) {
	for place, table := range []string{topTable, stepTable} {
		for _, l := range linesOf(table) {
			if l.isSequence() {
				continue
			}
			value := "1"
			switch l.vr {
			case api.VRDA:
				value = "20260105"
			case api.VRTM:
				value = "10"
			}
			key := el(l.tag, value)
			wants := [3]looked{warned, warned, warned}
			wants[place] = taken
			wantLook(t, "at the top", list(key), wants[0])
			wantLook(t, "in the step", steps(key), wants[1])
			wantLook(t, "in another item", seq(api.TagRefStudies, key), wants[2])
			wantLook(t, "in an item of the step's item", list(api.Node{Tag: api.TagSteps, VR: api.VRSQ, N: 1}, item(1), seq(api.TagProtocolCodes, key)), warned)
			wantLook(t, "in the same sequence further in", list(api.Node{Tag: api.TagSteps, VR: api.VRSQ, N: 1}, item(1), steps(key)), warned)
			wantLook(t, "in the same sequence elsewhere", list(api.Node{Tag: api.TagRefStudies, VR: api.VRSQ, N: 1}, item(1), steps(key)), warned)
			key.Value = ""
			for _, keys := range [][]api.Node{list(key), steps(key), seq(api.TagRefStudies, key)} {
				wantLook(t, "without a value", keys, taken)
			}
		}
	}
}

// TestLookRefusals: a value that may not be asked for is one only where its attribute is known.
func TestLookRefusals(t *testing.T) {
	for _, bad := range []string{"2026", "x", "-", "20260105-20260104", "20261301", "20260105-x"} {
		wantLook(t, bad, list(el(api.TagBirthDate, bad)), offends(api.TagBirthDate))
		wantLook(t, bad, steps(el(api.TagStartDate, bad)), offends(api.TagStartDate))
		wantLook(t, bad, steps(el(api.TagBirthDate, bad)), warned)
		wantLook(t, bad, list(el(api.TagStartDate, bad)), warned)
		wantLook(t, bad, seq(api.TagRefStudies, el(api.TagBirthDate, bad)), warned)
	}
	for _, good := range []string{"", "20260105", "20260105-", "-20260105", "20260105-20260105", "20260105-20260106"} {
		wantLook(t, good, list(el(api.TagBirthDate, good)), taken)
		wantLook(t, good, steps(el(api.TagStartDate, good)), taken)
	}
	for _, any := range []string{"*", "\x01", "\xff", `a\b`, "^^^^^^", "=====", "a very long text, with more characters than there may be in any of these"} {
		wantLook(t, any, list(el(api.TagAccession, any), el(api.TagPatientName, any), el(api.TagStudyUID, any), steps(el(api.TagModality, any), el(api.TagStationAE, any), el(api.TagPerformer, any))), taken)
	}
}

// TestLookWarned: what is not known makes a warning by its value alone, in items of any depth.
func TestLookWarned(t *testing.T) {
	deep := func(value string) []api.Node {
		keys := list(el(api.TagCodeValue, value))
		for range api.MaxDepth {
			keys = list(api.Node{Tag: 0x00321064, VR: api.VRSQ, N: 1}, item(1), keys)
		}
		return keys
	}
	wantLook(t, "depth 4", deep("X"), warned)
	wantLook(t, "depth 4 without a value", deep(""), taken)
	wantLook(t, "a sequence without items", list(el(0x00321064, "")), taken)
	wantLook(t, "the second of two items", list(api.Node{Tag: 0x00321064, VR: api.VRSQ, N: 2}, item(1), el(api.TagCodeValue, ""), item(1), el(api.TagCodeValue, "X")), warned)
	wantLook(t, "two items of another sequence, two of (0040,0100) in it", list(api.Node{Tag: 0x00321064, VR: api.VRSQ, N: 1}, item(1), api.Node{Tag: api.TagSteps, VR: api.VRSQ, N: 2}, item(0), item(0)), taken)
	wantLook(t, "a character set", list(el(api.TagCharset, "ISO_IR 192")), warned)
	wantLook(t, "a private one", list(api.Node{Tag: 0x00091001, VR: api.VRUN, Value: "ab"}), warned)
	wantLook(t, "a number", list(el(0x00280010, "\x00\x00")), warned)
	wantLook(t, "known ones ahead and behind", list(el(api.TagPatientName, "x"), el(0x00280010, "\x00\x00"), steps(el(api.TagModality, "x")), el(api.TagProcedureID, "x")), warned)
	wantLook(t, "in the step's item, behind known ones", steps(el(api.TagModality, "x"), el(api.TagStepID, "x"), el(0x00400400, "x")), warned)
}

// TestLookSize: as many nodes as there may be, and one more.
func TestLookSize(t *testing.T) {
	keys := []api.Node{{Tag: 0x00091001, VR: api.VRUN}}
	for len(keys) < api.MaxNodes {
		keys = append(keys, api.Node{Tag: keys[len(keys)-1].Tag + 1, VR: api.VRUN})
	}
	wantLook(t, "MaxNodes", keys, taken)
	keys[api.MaxNodes-1].Value = "ab"
	wantLook(t, "MaxNodes with a value", keys, warned)
	wantLook(t, "one more", append(keys, api.Node{Tag: 0x00111001, VR: api.VRUN}), offends())
}
