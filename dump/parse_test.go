package dump_test

import (
	"math/rand"
	"strings"
	"testing"

	"modality/api"
	"modality/dict"
)

// textCase is what must come of a text: nodes, or a refusal.
type textCase struct {
	text string
	want []api.Node
	code api.Errno
	at   int
}

// holdTexts holds Parse against what is said, and the model against it too, so that the model is not wrong where Parse is.
func holdTexts(t *testing.T, cases []textCase) {
	t.Helper()
	for _, c := range cases {
		if c.code == api.OK {
			wantNodes(t, c.text, c.want)
		} else {
			wantUnread(t, c.text, c.code, c.at)
		}
		if nodes, code, at := modelParse(c.text); code != c.code || at != c.at || len(nodes) != len(c.want) {
			t.Errorf("%.200q: the model says: %s, %d at %d", c.text, shown(nodes), code, at)
		}
	}
}

func TestDocument(t *testing.T) {
	two := list(element(0x00100010, api.VRPN, "Doe^Jane"), sequence(stepsTag, 2), item(1), element(codeTag, api.VRCS, `CT\MR`), item(0))
	const text = `(0010,0010) PN "Doe^Jane"
(0040,0100) SQ {
  item {
    (0008,0060) CS "CT"\"MR"
  }
  item {}
}
`
	wantText(t, two, text)
	wantText(t, list(element(rowsTag, api.VRUS, "\x00\x02")), "(0028,0010) US 512\n")
	wantText(t, list(element(creatorTag, api.VRLO, "A\x07B")), "(0009,0010) LO \"A\\x07B\"\n")
	holdTexts(t, []textCase{
		{text, two, 0, 0},
		{`PatientName "Doe^Jane" ScheduledProcedureStepSequence{item{Modality "CT"\"MR"}item{}} # typed`, two, 0, 0},
		{`Rows 65536`, nil, api.ErrDumpValue, 5},
		{`Rows x0002`, list(element(rowsTag, api.VRUS, "\x00\x02")), 0, 0},
		{`Rows LO "1"`, nil, api.ErrDumpVR, 5},
		{`Nonsense "a"`, nil, api.ErrDumpTag, 0},
		{`PatientID "a" PatientName "b"`, nil, api.ErrDumpOrder, 14},
		{`PatientID "a `, nil, api.ErrDumpToken, 10},
		{`PatientID "a "`, nil, api.ErrDumpValue, 10},
		{`PatientID`, nil, api.ErrDumpForm, 9},
	})
}

// TestTags: how an element is named, and which tags it may have.
func TestTags(t *testing.T) {
	holdTexts(t, []textCase{
		{`(0010,0020) "a"`, list(element(idTag, api.VRLO, "a")), 0, 0},
		{`(fffc,fffc) x`, list(element(0xFFFCFFFC, api.VROB, "")), 0, 0},
		{`(0001,0001) x`, list(element(0x00010001, api.VRUN, "")), 0, 0},
		{`(0003,FFFF) x`, list(element(0x0003FFFF, api.VRUN, "")), 0, 0},
		{`(FFFD,0001) x`, list(element(0xFFFD0001, api.VRUN, "")), 0, 0},
		{`(6002,0010) 5`, list(element(0x60020010, api.VRUS, "\x05\x00")), 0, 0},
		{`OverlayRows 5`, list(element(0x60000010, api.VRUS, "\x05\x00")), 0, 0},
		{`patientid "a"`, nil, api.ErrDumpTag, 0},
		{`PATIENTID "a"`, nil, api.ErrDumpTag, 0},
		{`PatientI "a"`, nil, api.ErrDumpTag, 0},
		{`PatientIDs "a"`, nil, api.ErrDumpTag, 0},
		{`LO "a"`, nil, api.ErrDumpTag, 0},
		{`item {}`, nil, api.ErrDumpTag, 0},
		{`DEADBEEF x`, nil, api.ErrDumpTag, 0},
		{`ABCDABCD x`, nil, api.ErrDumpTag, 0},
		{`(0000,0001) x`, nil, api.ErrDumpTag, 0},
		{`(0000,0110) US 1`, nil, api.ErrDumpTag, 0},
		{`MessageID 1`, nil, api.ErrDumpTag, 0},
		{`CommandGroupLength 1`, nil, api.ErrDumpTag, 0},
		{`TransferSyntaxUID "1"`, nil, api.ErrDumpTag, 0},
		{`(0002,0010) UI "1"`, nil, api.ErrDumpTag, 0},
		{`(FFFE,E000) x`, nil, api.ErrDumpTag, 0},
		{`(FFFE,E00D) x`, nil, api.ErrDumpTag, 0},
		{`(FFFE,0001) x`, nil, api.ErrDumpTag, 0},
		{`(FFFF,0001) x`, nil, api.ErrDumpTag, 0},
		{`(FFFF,FFFF) x`, nil, api.ErrDumpTag, 0},
		{`(0010,0000) UL 1`, nil, api.ErrDumpTag, 0},
		{`(0009,0000) x`, nil, api.ErrDumpTag, 0},
		{`(FFFD,0000) x`, nil, api.ErrDumpTag, 0},
		{`(0040,0100) { item { (0040,0000) x } }`, nil, api.ErrDumpTag, 21},
		{`(0040,0100) { item { Nonsense x } }`, nil, api.ErrDumpTag, 21},
		{`5 "a"`, nil, api.ErrDumpForm, 0},
		{`"PatientID" "a"`, nil, api.ErrDumpForm, 0},
		{`x00100020 "a"`, nil, api.ErrDumpForm, 0},
		{`x "a"`, nil, api.ErrDumpForm, 0},
		{`{}`, nil, api.ErrDumpForm, 0},
		{`}`, nil, api.ErrDumpForm, 0},
		{`\`, nil, api.ErrDumpForm, 0},
	})
	for e := range dict.Entries() {
		holdModel(t, e.Keyword+" x")
		holdModel(t, e.Keyword+" {}")
		holdModel(t, e.Keyword+" \"\"")
	}
}

// TestVRs: which VR an element has, told or not.
func TestVRs(t *testing.T) {
	holdTexts(t, []textCase{
		{`PatientID LO "a"`, list(element(idTag, api.VRLO, "a")), 0, 0},
		{`(0009,0010) "a"`, list(element(creatorTag, api.VRLO, "a")), 0, 0},
		{`(0009,0010) UN x6162`, list(element(creatorTag, api.VRUN, "ab")), 0, 0},
		{`(0009,1001) x6162`, list(element(privateTag, api.VRUN, "ab")), 0, 0},
		{`(0009,1001) "ab"`, nil, api.ErrDumpForm, 12},
		{`(0009,1001) {}`, nil, api.ErrDumpForm, 12},
		{`(0009,1001) SQ {}`, list(sequence(privateTag, 0)), 0, 0},
		{`(0040,0100) {}`, list(sequence(stepsTag, 0)), 0, 0},
		{`(0040,0100) SQ {}`, list(sequence(stepsTag, 0)), 0, 0},
		{`(0040,0100) UN x`, nil, api.ErrDumpVR, 12},
		{`PatientID SH "a"`, nil, api.ErrDumpVR, 10},
		{`PatientID UN x`, nil, api.ErrDumpVR, 10},
		{`PatientID SQ {}`, nil, api.ErrDumpVR, 10},
		{`(6002,0010) SS 5`, nil, api.ErrDumpVR, 12},
		{`(6020,0010) SS 5`, list(element(0x60200010, api.VRSS, "\x05\x00")), 0, 0},
		{`PatientID lo "a"`, nil, api.ErrDumpVR, 10},
		{`PatientID L "a"`, nil, api.ErrDumpVR, 10},
		{`PatientID LOX "a"`, nil, api.ErrDumpVR, 10},
		{`PatientID item`, nil, api.ErrDumpVR, 10},
		{`(0040,0100) item {}`, nil, api.ErrDumpVR, 12},
		{`(0009,1001) XX`, nil, api.ErrDumpVR, 12},
		{`(0009,1001) OF x`, nil, api.ErrDumpVR, 12},
		{`PatientID PatientName "a"`, nil, api.ErrDumpVR, 10},
		{`PatientID LO LO "a"`, nil, api.ErrDumpForm, 13},
		{`PatientID LO`, nil, api.ErrDumpForm, 12},
		{`PatientID LO PatientName`, nil, api.ErrDumpForm, 13},
		{"PatientID # \"a\"\n ", nil, api.ErrDumpForm, 17},
	})
	for v := api.VRNone; v <= api.VRItem; v++ {
		for _, value := range []string{"x", `""`, "5", "(0010,0010)", "{}", "", `\`, "item", "}"} {
			for _, tag := range []string{"(0009,1001)", "(0009,0010)", "PatientID", "ScheduledProcedureStepSequence"} {
				holdModel(t, tag+" "+dict.VRWord(v)+" "+value)
			}
		}
	}
}

// TestOrder: elements rise on their level.
func TestOrder(t *testing.T) {
	holdTexts(t, []textCase{
		{`PatientID "a" PatientID "a"`, nil, api.ErrDumpOrder, 14},
		{`PatientID "a" (0010,0020) "a"`, nil, api.ErrDumpOrder, 14},
		{`PatientID "a" (0010,0021) "a"`, list(element(idTag, api.VRLO, "a"), element(0x00100021, api.VRLO, "a")), 0, 0},
		{`(0019,1002) x (0019,1001) x`, nil, api.ErrDumpOrder, 14},
		{`(0019,FFFF) x (0020,0010) ""`, list(element(0x0019FFFF, api.VRUN, ""), element(0x00200010, api.VRSH, "")), 0, 0},
		{`(0009,1001) SQ { item { PatientID "a" } item { PatientID "b" } } PatientID "c"`, list(sequence(privateTag, 2), item(1), element(idTag, api.VRLO, "a"), item(1), element(idTag, api.VRLO, "b"), element(idTag, api.VRLO, "c")), 0, 0},
		{`(0009,1001) SQ { item { PatientID "a" PatientName "b" } }`, nil, api.ErrDumpOrder, 38},
		{`(0040,0100) { item { (0050,1001) x } } (0040,0100) {}`, nil, api.ErrDumpOrder, 39},
		{`(0040,0100) { item { (0050,1001) x } } (0040,0099) x`, nil, api.ErrDumpOrder, 39},
		{`(0040,0100) { item { (0050,1001) x } } (0040,0101) x`, list(sequence(stepsTag, 1), item(1), element(0x00501001, api.VRUN, ""), element(0x00400101, api.VRUN, "")), 0, 0},
		// An earlier reason of the same token: the tag may not be at all.
		{`PatientID "a" (0000,0001) x`, nil, api.ErrDumpTag, 14},
		{`PatientID "a" Nonsense x`, nil, api.ErrDumpTag, 14},
		// A later token's reason.
		{`PatientID "a" PatientName LO "b "`, nil, api.ErrDumpOrder, 14},
		{`PatientID "a" PatientName`, nil, api.ErrDumpOrder, 14},
	})
}

// TestSequences: items and braces.
func TestSequences(t *testing.T) {
	holdTexts(t, []textCase{
		{`(0040,0100){item{}}`, list(sequence(stepsTag, 1), item(0)), 0, 0},
		{`(0040,0100){item{}item{}item{}}`, list(sequence(stepsTag, 3), item(0), item(0), item(0)), 0, 0},
		{`(0040,0100){item{Rows 5 Columns 5}}`, list(sequence(stepsTag, 1), item(2), element(rowsTag, api.VRUS, "\x05\x00"), element(rowsTag+1, api.VRUS, "\x05\x00")), 0, 0},
		{`(0040,0100){item{(0008,1110){item{}}(0040,0100){}}}Rows 5`, nil, api.ErrDumpOrder, 51},
		{`(0008,1110){item{(0008,1110){item{}}(0040,0100){}}}Rows 5`, list(sequence(0x00081110, 1), item(2), sequence(0x00081110, 1), item(0), sequence(stepsTag, 0), element(rowsTag, api.VRUS, "\x05\x00")), 0, 0},
		{`(0040,0100) { PatientID "a" }`, nil, api.ErrDumpForm, 14},
		{`(0040,0100) { (0010,0020) "a" }`, nil, api.ErrDumpForm, 14},
		{`(0040,0100) { Item {} }`, nil, api.ErrDumpForm, 14},
		{`(0040,0100) { ITEM {} }`, nil, api.ErrDumpForm, 14},
		{`(0040,0100) { items {} }`, nil, api.ErrDumpForm, 14},
		{`(0040,0100) { "item" {} }`, nil, api.ErrDumpForm, 14},
		{`(0040,0100) { {} }`, nil, api.ErrDumpForm, 14},
		{`(0040,0100) { 5`, nil, api.ErrDumpForm, 14},
		{`(0040,0100) { x`, nil, api.ErrDumpForm, 14},
		{`(0040,0100) {`, nil, api.ErrDumpForm, 13},
		{`(0040,0100) { `, nil, api.ErrDumpForm, 14},
		{`(0040,0100) { item`, nil, api.ErrDumpForm, 18},
		{`(0040,0100) { item PatientID "a" }`, nil, api.ErrDumpForm, 19},
		{`(0040,0100) { item }`, nil, api.ErrDumpForm, 19},
		{`(0040,0100) { item \`, nil, api.ErrDumpForm, 19},
		{`(0040,0100) { item {`, nil, api.ErrDumpForm, 20},
		{`(0040,0100) { item { item {} } }`, nil, api.ErrDumpTag, 21},
		{`(0040,0100) { item { {} } }`, nil, api.ErrDumpForm, 21},
		{`(0040,0100) { item { 5`, nil, api.ErrDumpForm, 21},
		{`(0040,0100) { item { Rows 5`, nil, api.ErrDumpForm, 27},
		{`(0040,0100) { item {}`, nil, api.ErrDumpForm, 21},
		{`(0040,0100) { item {} \ item {} }`, nil, api.ErrDumpForm, 22},
		{`(0040,0100) { item {} Rows 5 }`, nil, api.ErrDumpForm, 22},
		{`(0040,0100) {} }`, nil, api.ErrDumpForm, 15},
		{`(0040,0100) {} {}`, nil, api.ErrDumpForm, 15},
		{`(0040,0100) {} \ {}`, nil, api.ErrDumpForm, 15},
		{`(0040,0100) { item {} } }`, nil, api.ErrDumpForm, 24},
		{`(0040,0100) }`, nil, api.ErrDumpForm, 12},
		{`(0040,0100) "a"`, nil, api.ErrDumpForm, 12},
		{`(0040,0100) 5`, nil, api.ErrDumpForm, 12},
		{`(0040,0100) x`, nil, api.ErrDumpForm, 12},
		{`(0040,0100) SQ x`, nil, api.ErrDumpForm, 15},
		{`(0040,0100) (0040,0100) {}`, nil, api.ErrDumpForm, 12},
		{`Rows 5 }`, nil, api.ErrDumpForm, 7},
		{`Rows { item {} }`, nil, api.ErrDumpForm, 5},
	})
}

// TestTokensOfValues: which tokens stand for a value of which VR.
func TestTokensOfValues(t *testing.T) {
	tags := "\x10\x00\x20\x00\xCD\xAB\x01\xEF"
	holdTexts(t, []textCase{
		{`PatientID "a"\"b"`, list(element(idTag, api.VRLO, `a\b`)), 0, 0},
		{"PatientID \"a\" # and\n \\ #\n\"\" \\\"b\"", list(element(idTag, api.VRLO, `a\\b`)), 0, 0},
		{`PatientID ""\""`, list(element(idTag, api.VRLO, `\`)), 0, 0},
		{`PatientID "a" "b"`, nil, api.ErrDumpForm, 14},
		{`PatientID "a"\`, nil, api.ErrDumpForm, 14},
		{`PatientID "a"\\"b"`, nil, api.ErrDumpForm, 14},
		{`PatientID \"a"`, nil, api.ErrDumpForm, 10},
		{`PatientID "a"\5`, nil, api.ErrDumpForm, 14},
		{`PatientID "a"\x61`, nil, api.ErrDumpForm, 14},
		{`PatientID "a"\PatientName`, nil, api.ErrDumpForm, 14},
		{`PatientID "a"\}`, nil, api.ErrDumpForm, 14},
		{`PatientID 5`, nil, api.ErrDumpForm, 10},
		{`PatientID (0010,0020)`, nil, api.ErrDumpForm, 10},
		{`PatientID {}`, nil, api.ErrDumpForm, 10},
		{`PatientID }`, nil, api.ErrDumpForm, 10},
		{`PatientID x61`, list(element(idTag, api.VRLO, "a")), 0, 0},
		{`PatientID x615C62`, list(element(idTag, api.VRLO, `a\b`)), 0, 0},
		{`PatientID x`, list(element(idTag, api.VRLO, "")), 0, 0},
		{`PatientID x61\x62`, nil, api.ErrDumpForm, 13},
		{`PatientID x61\"b"`, nil, api.ErrDumpForm, 13},
		{`PatientID x61 x62`, nil, api.ErrDumpForm, 14},
		{`TextValue "a\\b"`, list(element(0x0040A160, api.VRUT, `a\b`)), 0, 0},
		{`TextValue "a"\"b"`, nil, api.ErrDumpForm, 13},
		{`TextValue "a"\`, nil, api.ErrDumpForm, 13},
		{`TextValue x615c62`, list(element(0x0040A160, api.VRUT, `a\b`)), 0, 0},
		{`URNCodeValue "a\\b"`, list(element(0x00080120, api.VRUR, `a\b`)), 0, 0},
		{`LongCodeValue "a\\b"`, nil, api.ErrDumpValue, 14},
		{`Rows 1\2 \ 3`, list(element(rowsTag, api.VRUS, "\x01\x00\x02\x00\x03\x00")), 0, 0},
		{`Rows 1 2`, nil, api.ErrDumpForm, 7},
		{`Rows 1\`, nil, api.ErrDumpForm, 7},
		{`Rows "1"`, nil, api.ErrDumpForm, 5},
		{`Rows 1\"2"`, nil, api.ErrDumpForm, 7},
		{`Rows 1\x0002`, nil, api.ErrDumpForm, 7},
		{`Rows x0100\2`, nil, api.ErrDumpForm, 10},
		{`Rows x`, list(element(rowsTag, api.VRUS, "")), 0, 0},
		{`Rows (0028,0010)`, nil, api.ErrDumpForm, 5},
		{`GraphicData 1\2.5`, list(element(0x00700022, api.VRFL, "\x00\x00\x80\x3F\x00\x00\x20\x40")), 0, 0},
		{`GraphicData "1"`, nil, api.ErrDumpForm, 12},
		{`GraphicData x0000`, list(element(0x00700022, api.VRFL, "\x00\x00")), 0, 0},
		{`(0009,1001) AT (0010,0020)\(abcd,EF01)`, list(element(privateTag, api.VRAT, tags)), 0, 0},
		{`(0009,1001) AT (0000,0000)\(FFFF,FFFF)`, list(element(privateTag, api.VRAT, "\x00\x00\x00\x00\xFF\xFF\xFF\xFF")), 0, 0},
		{`(0009,1001) AT (FFFE,E000) (0009,1002) AT (0002,0010)`, list(element(privateTag, api.VRAT, "\xFE\xFF\x00\xE0"), element(privateTag+1, api.VRAT, "\x02\x00\x10\x00")), 0, 0},
		{`(0009,1001) AT x1000`, list(element(privateTag, api.VRAT, "\x10\x00")), 0, 0},
		{`(0009,1001) AT PatientID`, nil, api.ErrDumpForm, 15},
		{`(0009,1001) AT (0010,0020)\PatientID`, nil, api.ErrDumpForm, 27},
		{`(0009,1001) AT 5`, nil, api.ErrDumpForm, 15},
		{`(0009,1001) AT "(0010,0020)"`, nil, api.ErrDumpForm, 15},
		{`(0009,1001) AT (0010,0020)\`, nil, api.ErrDumpForm, 27},
		{`(0009,1001) OB xABcd`, list(element(privateTag, api.VROB, "\xAB\xCD")), 0, 0},
		{`(0009,1001) OB xABcd\x00`, nil, api.ErrDumpForm, 20},
		{`(0009,1001) OB 5`, nil, api.ErrDumpForm, 15},
		{`(0009,1001) OW "ab"`, nil, api.ErrDumpForm, 15},
		{`(0009,1001) UN (0010,0020)`, nil, api.ErrDumpForm, 15},
		{`(0009,1001) UN \`, nil, api.ErrDumpForm, 15},
	})
}

// TestValues: which values may not be, and where that is told.
func TestValues(t *testing.T) {
	holdTexts(t, []textCase{
		{`PatientID "a\\b"`, nil, api.ErrDumpValue, 10},
		{`PatientID "\x5c"`, nil, api.ErrDumpValue, 10},
		{`PatientID "a"\"\x5C"`, nil, api.ErrDumpValue, 14},
		{`SOPInstanceUID "1\\2"`, nil, api.ErrDumpValue, 15},
		{`PatientID "a "`, nil, api.ErrDumpValue, 10},
		{`PatientID "a\x20"`, nil, api.ErrDumpValue, 10},
		{`PatientID "a\x00"`, nil, api.ErrDumpValue, 10},
		{`PatientID " "`, nil, api.ErrDumpValue, 10},
		{`PatientID x2000`, nil, api.ErrDumpValue, 10},
		{`PatientID " a"`, list(element(idTag, api.VRLO, " a")), 0, 0},
		{`PatientID "a "\"b"`, list(element(idTag, api.VRLO, `a \b`)), 0, 0},
		{`PatientID "a"\" "`, nil, api.ErrDumpValue, 10},
		{`PatientID "a"\"b\x00"`, nil, api.ErrDumpValue, 10},
		{`PatientID "a "\""`, list(element(idTag, api.VRLO, `a \`)), 0, 0},
		{`SOPInstanceUID "1.2\x00"`, nil, api.ErrDumpValue, 15},
		{`SOPInstanceUID "1.2 "`, nil, api.ErrDumpValue, 15},
		{`TextValue "a "`, nil, api.ErrDumpValue, 10},
		{`URNCodeValue "a\x00"`, nil, api.ErrDumpValue, 13},
		{`PatientID "a\x0a"`, list(element(idTag, api.VRLO, "a\n")), 0, 0},
		{`StudyDate "no day"`, list(element(0x00080020, api.VRDA, "no day")), 0, 0},
		{`Rows x2000`, list(element(rowsTag, api.VRUS, " \x00")), 0, 0},
		{`Rows x00`, nil, api.ErrDumpValue, 5},
		{`Rows x000000`, nil, api.ErrDumpValue, 5},
		{`Rows x000`, nil, api.ErrDumpValue, 5},
		{`PatientID x616`, nil, api.ErrDumpValue, 10},
		{`PatientID xa`, nil, api.ErrDumpValue, 10},
		{`(0009,1001) OB x0`, nil, api.ErrDumpValue, 15},
		{`(0009,1001) OB x00`, nil, api.ErrDumpValue, 15},
		{`(0009,1001) OW x010203`, nil, api.ErrDumpValue, 15},
		{`(0009,1001) x01`, nil, api.ErrDumpValue, 12},
		{`(0009,1001) AT x01`, nil, api.ErrDumpValue, 15},
		{`(0009,1001) FD x010203`, nil, api.ErrDumpValue, 15},
		// A value's own reason is looked at when the value is read to its end: a later token of the value comes first, one behind the value does not.
		{`PatientID "a"\" "\5`, nil, api.ErrDumpForm, 18},
		{`PatientID "a"\" "\`, nil, api.ErrDumpForm, 18},
		{`PatientID "a"\" "\"\\"`, nil, api.ErrDumpValue, 18},
		{`PatientID "a " 5`, nil, api.ErrDumpValue, 10},
		{`PatientID "a " }`, nil, api.ErrDumpValue, 10},
		{`PatientID "a " Nonsense`, nil, api.ErrDumpValue, 10},
		{`PatientID "a " PatientID`, nil, api.ErrDumpValue, 10},
		{`PatientID x20\`, nil, api.ErrDumpValue, 10},
		{`TextValue "a "\`, nil, api.ErrDumpValue, 10},
		{`Rows 1\65536\"`, nil, api.ErrDumpToken, 13},
		{`Rows 1\65536\x`, nil, api.ErrDumpValue, 7},
	})
}

// TestTokenLists: all lists of some tokens, as far as they are not refused ahead of their end, and one token beyond.
func TestTokenLists(t *testing.T) {
	t.Parallel()
	tokens := []string{`PatientID`, `(0009,1001)`, `(0040,0100)`, `LO`, `SQ`, `US`, `item`, `Nonsense`, `{`, `}`, `\`, `"a"`, `"a "`, `5`, `70000`, `x41`, `x4142`, `xz`}
	tried := 0
	var try func(text string, more int)
	try = func(text string, more int) {
		for _, token := range tokens {
			longer := text + token + " "
			tried++
			// A refusal at the end, or of a value that may still go on, is not the last word.
			_, code, at := holdModel(t, longer)
			alive := code == api.OK || at == len(longer) || code == api.ErrDumpValue && strings.HasSuffix(longer, `" `)
			if alive && more > 1 {
				try(longer, more-1)
			}
		}
	}
	try("", 9)
	if tried < 30000 {
		t.Errorf("only %d texts were tried", tried)
	}
}

// TestSpoiled: texts that were well formed, with something changed, put in, taken away or cut off.
func TestSpoiled(t *testing.T) {
	t.Parallel()
	r := rand.New(rand.NewSource(2))
	parts := []string{" ", "\n", "#", `"`, `\`, "{", "}", "(", "item", "x", "x41", "5", "-", "e", ".", `""`, "LO", "PatientID", "(0009,1001)", "\x00", "\xFF", "é", `\x41`, "SQ", "{item{", "}}"}
	for range 20000 {
		text := modelPrint(someSet(r))
		if r.Intn(2) == 0 {
			text = typed(r, someSet(r))
		}
		for range 1 + r.Intn(2) {
			from := r.Intn(len(text) + 1)
			to := min(from+r.Intn(4), len(text))
			text = text[:from] + []string{"", parts[r.Intn(len(parts))]}[r.Intn(2)] + text[to:]
		}
		holdModel(t, text)
	}
}

// TestCuts: every beginning of some texts.
func TestCuts(t *testing.T) {
	t.Parallel()
	r := rand.New(rand.NewSource(3))
	for range 20 {
		text := typed(r, someSet(r))
		for size := range len(text) + 1 {
			holdModel(t, text[:size])
		}
	}
}

// TestNoise: texts of bytes at random, and of the bytes that tokens are made of.
func TestNoise(t *testing.T) {
	t.Parallel()
	r := rand.New(rand.NewSource(4))
	for i := range 60000 {
		b := make([]byte, r.Intn(24))
		for j := range b {
			b[j] = "(09,AF)x\"\\{}#\n 5e-.item"[r.Intn(23)]
			if i%4 == 0 {
				b[j] = byte(r.Intn(256))
			}
		}
		holdModel(t, []string{"", "PatientID ", "Rows ", "(0009,1001) FL "}[r.Intn(4)]+string(b))
	}
}
