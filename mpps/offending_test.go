package mpps_test

import (
	"testing"

	"modality/api"
	"modality/mpps"
)

// TestOffendingOrder: tags are named as a walk through the list finds them; what is missing on a level behind its last node.
func TestOffendingOrder(t *testing.T) {
	// In the items of (0040,0270): a study's UID and, within, a code's scheme; on top the modality and the series.
	inner := holding(el(api.TagAccession, ""), el(api.TagRefStudies, ""), el(api.TagProcedureDesc, ""), el(api.TagStepDesc, ""),
		seq(api.TagProtocolCodes, holding(el(api.TagCodeValue, "1"))), el(api.TagStepID, ""), el(api.TagProcedureID, ""))
	ds := put(without(plain("A1"), api.TagModality, api.TagSeries), seq(api.TagStepAttributes, about("A1"), inner)...)
	wantCreate(t, "missing", ds, refused(0x0120, api.TagCodeScheme, api.TagStudyUID, api.TagModality, api.TagSeries))
	// A second item lacks what the first has lacked, and more.
	bare := holding(el(api.TagStudyUID, "1.2"))
	ds = put(plain("A1"), seq(api.TagStepAttributes, inner, bare)...)
	wantCreate(t, "missing in two items", ds, refused(0x0120, api.TagCodeScheme, api.TagStudyUID, api.TagAccession, api.TagRefStudies, api.TagProcedureDesc, api.TagStepDesc, api.TagProtocolCodes, api.TagStepID, api.TagProcedureID))
	// Empty ones are named where they stand.
	ds = put(with(plain("A1"), api.TagDoneID, ""), seq(api.TagRefPatients, reference("1", ""), reference("", "1"))...)
	ds = with(put(ds, el(api.TagModality, "")), api.TagStudyUID, "")
	wantCreate(t, "empty", ds, refused(0x0121, api.TagModality, api.TagRefInstance, api.TagRefClass, api.TagDoneID, api.TagStudyUID))
	wantCreate(t, "no items", put(plain("A1"), el(api.TagStepAttributes, "")), refused(0x0121, api.TagStepAttributes))
	// Wrong values too, in the list's order.
	ds = put(with(with(plain("A1"), api.TagModality, "ct"), api.TagDoneTime, "2460"), seq(api.TagRefPatients, reference("1", "01"), reference("x", "1"))...)
	wantCreate(t, "wrong", ds, refused(0x0106, api.TagModality, api.TagRefInstance, api.TagRefClass, api.TagDoneTime))
	// And what may not be there.
	ds = put(put(put(plain("A1"), el(api.TagReferrer, "")), seq(api.TagProcedureCodes, holding(el(api.TagModality, ""), el(api.TagReferrer, "")), holding(el(api.TagAccession, "")))...), el(api.TagAccession, ""))
	wantCreate(t, "strange", ds, refused(0x0105, api.TagAccession, api.TagReferrer, api.TagModality))
}

// TestOffendingOnce: a tag is named once, wherever else it stands, and a place that does not offend does not name it.
func TestOffendingOnce(t *testing.T) {
	ds := put(plain("A1"), seq(api.TagStepAttributes, about("A1"), holding(), holding(), about("A2"), holding(el(api.TagStudyUID, "")))...)
	wantCreate(t, "three items", ds, refused(0x0120, api.TagAccession, api.TagRefStudies, api.TagStudyUID, api.TagProcedureDesc, api.TagStepDesc, api.TagProtocolCodes, api.TagStepID, api.TagProcedureID))
	st := started(plain("A1"))
	wantSet(t, "codes", st, list(seq(api.TagProcedureCodes, code(""), code("")), seq(api.TagStopReason, code(""))), refused(0x0121, api.TagCodeValue))
	wantSet(t, "no codes", st, seq(api.TagStopReason, holding(), holding()), refused(0x0120, api.TagCodeValue, api.TagCodeScheme))
}

// TestOffendingMost: sixteen are named, the first.
func TestOffendingMost(t *testing.T) {
	var must []api.Tag
	for _, l := range topLines {
		if l.create == "1" || l.create == "2" {
			must = append(must, l.tag)
		}
	}
	wantCreate(t, "nothing", nil, refused(0x0120, must[:16]...))
	wantCreate(t, "nothing", []api.Node{}, refused(0x0120, must[:16]...))
	for n := range must {
		want := refused(0x0120, must[:min(n, 16)]...)
		if n == 0 {
			want = makes(api.PerfProgress, plain("A1"), move("A1", 2))
		}
		wantCreate(t, "without the first", without(plain("A1"), must[:n]...), want)
	}
	// Seven in a series, eight in a step, one on top are sixteen; the next is one more.
	ds := put(plain("A1"), seq(api.TagSeries, holding())...)
	ds = put(ds, seq(api.TagStepAttributes, holding())...)
	all := []api.Tag{
		api.TagAccession, api.TagRefStudies, api.TagStudyUID, api.TagProcedureDesc, api.TagStepDesc, api.TagProtocolCodes, api.TagStepID, api.TagProcedureID,
		api.TagRetrieveAE, api.TagSeriesDesc, api.TagPerformerName, api.TagOperators, api.TagRefImages, api.TagProtocol, api.TagSeriesUID,
	}
	wantCreate(t, "fifteen", ds, refused(0x0120, all...))
	wantCreate(t, "sixteen", without(ds, api.TagModality), refused(0x0120, append(all, api.TagModality)...))
	wantCreate(t, "seventeen", without(ds, api.TagModality, api.TagPatientID), refused(0x0120, append(all, api.TagModality)...))
	ds = put(ds, seq(api.TagProcedureCodes, holding())...)
	wantCreate(t, "seventeen in items", ds, refused(0x0120, append([]api.Tag{api.TagCodeValue, api.TagCodeScheme}, all[:14]...)...))
	var strange []api.Node
	var tags []api.Tag
	for i := range 40 {
		tag := api.Tag(0x00410011 + i)
		strange, tags = append(strange, api.Node{Tag: tag, VR: api.VRLO}), append(tags, tag)
	}
	wantCreate(t, "strange", list(plain("A1"), strange), refused(0x0105, tags[:16]...))
	st := started(plain("A1"))
	wantSet(t, "strange", st, strange, refused(0x0105, tags[:16]...))
	wantSet(t, "strange in an item", st, seq(api.TagStopReason, holding(strange), holding(el(api.TagModality, ""))), refused(0x0105, tags[:16]...))
	for n := range 40 {
		want := refused(0x0105, tags[:min(n, 16)]...)
		if n == 0 {
			want = api.Verdict{Data: plain("A1")}
		}
		wantVerdict(t, "P14.4: strange", mpps.Get(st, "1.9", tags[:n]), want)
	}
}
