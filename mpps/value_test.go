package mpps_test

import (
	"fmt"
	"testing"

	"modality/api"
	"modality/dict"
)

// values tells of some elements which values may be; none of them may be longer, or more, than the dictionary says.
var values = map[api.Tag]struct{ good, bad []string }{
	api.TagModality:      {[]string{"CT", "A_1 B", " CT"}, []string{"ct", `CT\MR`, long("C", 17), "C-T"}},
	api.TagPatientName:   {[]string{"", "Doe^Jane^^Dr=a=b", "山田", long("山", 64)}, []string{`a\b`, "a=b=c=d", "a^b^c^d^e^f", "a\tb", "\xff", long("a", 65)}},
	api.TagPatientID:     {[]string{"", "é", long("é", 64)}, []string{`7\8`, "7\n8", long("é", 65)}},
	api.TagBirthDate:     {[]string{"", "20240229", "00010101", "99991231"}, []string{"20230229", "00000101", "20240001", "20241301", "20240100", "20240431", "2024", "2024-01-", `20240101\20240101`, `\`}},
	api.TagSex:           {[]string{"", "M", "F", "O"}, []string{"m", "X", "MF", " M", `M\F`, "M M", `M\M`, `\`}},
	api.TagStudyID:       {[]string{"", long("s", 16)}, []string{`a\b`, long("s", 17), "\x7f"}},
	api.TagDoneStationAE: {[]string{"CT1", " CT 1"}, []string{`CT1\CT2`, "CTé", long("C", 17), "\x01"}},
	api.TagDoneDate:      {[]string{"20240229", "20260701"}, []string{"20260230", "20260700", "2026", "0000 101", `20260701\20260702`}},
	api.TagDoneTime:      {[]string{"00", "2359", "235960", "235960.999999", "000000.0"}, []string{"24", "2360", "235961", "1", "0930.5", "093000.", "093000.1234567", "09:30", `09\10`}},
	api.TagEndDate:       {[]string{"", "20240229"}, []string{"20230229", `20260701\`}},
	api.TagEndTime:       {[]string{"", "0915"}, []string{"2400", "9"}},
	api.TagDoneStatus:    {[]string{"IN PROGRESS"}, []string{"in progress", "IN  PROGRESS", "SCHEDULED", "STARTED", "IN", " IN PROGRESS", `IN PROGRESS\IN PROGRESS`, `IN PROGRESS\COMPLETED`, "COMPLETE"}},
	api.TagDoneDesc:      {[]string{"", "d"}, []string{`a\b`, long("d", 65)}},
	api.TagComments:      {[]string{"", `a\b`, "a\r\nb\tc\fd", long("山", 1024)}, []string{"a\x00b", long("c", 1025), "\x1b"}},
	api.TagStudyUID:      {[]string{"1.2", "0", long("1", 64)}, []string{"1.02", "1..2", "a", long("1", 65), `1\2`}},
	api.TagStepID:        {[]string{"", "A1", "é"}, []string{`A1\A2`, long("A", 17)}},
	api.TagRetrieveAE:    {[]string{"", "A", `A\B`, `\`}, []string{"é", long("A", 17), "A\\" + long("A", 17)}},
	api.TagOperators:     {[]string{"", `A^B\C^D`, `\A`, "="}, []string{`A\a=b=c=d`, "a\tb"}},
	api.TagPerformerName: {[]string{"", `A\B`}, []string{long("A", 65)}},
	api.TagProtocol:      {[]string{"Head"}, []string{`a\b`, long("d", 65)}},
	api.TagSeriesUID:     {[]string{"1.2.3"}, []string{"1.2.", `1.2\1.3`}},
	api.TagCodeValue:     {[]string{"T-1"}, []string{`a\b`, long("d", 17)}},
	api.TagCodeMeaning:   {[]string{"", "m"}, []string{long("m", 65), "\x80"}},
	api.TagRefInstance:   {[]string{"1.2"}, []string{"1.a", `1.2\1.3`}},
}

// TestValues: what each element may be, wherever it stands.
func TestValues(t *testing.T) {
	st := started(rich())
	for tag, v := range values {
		if _, known := lineOf(topLines, tag); known && tag != api.TagIssuer && !hasTag(rich(), tag) {
			t.Fatal(dict.PrintTag(tag))
		}
		for _, text := range v.good {
			ds := with(rich(), tag, text)
			want := makes(api.PerfProgress, ds, modelMoves(scheduled(), ds, 1, 2)...)
			wantCreate(t, fmt.Sprintf("%s %.40q", dict.PrintTag(tag), text), ds, want)
		}
		for _, text := range v.bad {
			ds := with(rich(), tag, text)
			if dict.Formed(ds) != nil {
				t.Fatalf("%s %q is not even a value", dict.PrintTag(tag), text)
			}
			wantCreate(t, fmt.Sprintf("%s %.40q", dict.PrintTag(tag), text), ds, refused(0x0106, tag))
			if said := settable(ds); hasTag(said, tag) {
				wantSet(t, fmt.Sprintf("%s %.40q", dict.PrintTag(tag), text), st, said, refused(0x0106, tag))
			}
		}
	}
}

func hasTag(nodes []api.Node, tag api.Tag) bool {
	for _, n := range nodes {
		if n.Tag == tag {
			return true
		}
	}
	return false
}

// TestValuesStatus: all three words may be told; only one of them in a Create.
func TestValuesStatus(t *testing.T) {
	st := started(rich())
	for state, word := range map[int]string{1: "IN PROGRESS", 2: "COMPLETED", 3: "DISCONTINUED"} {
		want := makes(state, with(rich(), api.TagDoneStatus, word))
		if state != 1 {
			want.Change.Moves = []api.Move{move("A1", state+1)}
		}
		wantSet(t, word, st, list(el(api.TagDoneStatus, word)), want)
	}
}
