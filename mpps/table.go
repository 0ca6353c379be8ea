package mpps

import "modality/api"

// The levels on which attributes stand: the top of a data set, and the items of its sequences.
const (
	nowhere = iota // what is no sequence has no items
	atTop
	inCode
	inReference
	inStep
	inSeries
	levelCount
)

// What may be asked of an attribute.
const (
	barred  = iota // it may not be there
	filled         // it must be there, and not be empty
	given          // it must be there
	allowed        // it may be there
)

// The columns of the table.
const (
	byCreate = iota
	bySet
	atEnd // of what is there when a step has ended
	columnCount
)

type needs [columnCount]int

// attribute is a row of the table. The zero row is that of all which the table does not have: it is barred.
type attribute struct {
	tag   api.Tag
	needs needs
	items int                     // the level in its items
	holds func(value string) bool // of a value that is not empty, besides what the dictionary asks; none: nothing
}

// table is all that may stand in a performed step's data set, level by level.
type table [levelCount][]attribute

func attributes() table {
	return table{
		atTop: {
			{tag: api.TagModality, needs: needs{filled, barred, allowed}},
			{tag: api.TagProcedureCodes, needs: needs{given, allowed, allowed}, items: inCode},
			{tag: api.TagRefPatients, needs: needs{given, barred, allowed}, items: inReference},
			{tag: api.TagPatientName, needs: needs{given, barred, allowed}},
			{tag: api.TagPatientID, needs: needs{given, barred, allowed}},
			{tag: api.TagIssuer, needs: needs{allowed, barred, allowed}},
			{tag: api.TagBirthDate, needs: needs{given, barred, allowed}, holds: isDay},
			{tag: api.TagSex, needs: needs{given, barred, allowed}, holds: isSex},
			{tag: api.TagStudyID, needs: needs{given, barred, allowed}},
			{tag: api.TagDoneStationAE, needs: needs{filled, barred, allowed}},
			{tag: api.TagDoneStation, needs: needs{given, barred, allowed}},
			{tag: api.TagDoneLocation, needs: needs{given, barred, allowed}},
			{tag: api.TagDoneDate, needs: needs{filled, barred, allowed}, holds: isDay},
			{tag: api.TagDoneTime, needs: needs{filled, barred, allowed}, holds: isTime},
			{tag: api.TagEndDate, needs: needs{given, allowed, filled}, holds: isDay},
			{tag: api.TagEndTime, needs: needs{given, allowed, filled}, holds: isTime},
			{tag: api.TagDoneStatus, needs: needs{filled, allowed, allowed}, holds: isStatusWord},
			{tag: api.TagDoneID, needs: needs{filled, barred, allowed}},
			{tag: api.TagDoneDesc, needs: needs{given, allowed, allowed}},
			{tag: api.TagDoneType, needs: needs{given, allowed, allowed}},
			{tag: api.TagDoneProtocols, needs: needs{given, allowed, allowed}, items: inCode},
			{tag: api.TagStepAttributes, needs: needs{filled, barred, allowed}, items: inStep},
			{tag: api.TagComments, needs: needs{allowed, allowed, allowed}},
			{tag: api.TagStopReason, needs: needs{allowed, allowed, allowed}, items: inCode},
			{tag: api.TagSeries, needs: needs{given, allowed, filled}, items: inSeries},
		},
		inCode:      codeAttributes(),
		inReference: referenceAttributes(),
		inStep:      stepAttributes(),
		inSeries:    seriesAttributes(),
	}
}

func codeAttributes() []attribute {
	return []attribute{
		{tag: api.TagCodeValue, needs: needs{filled, filled, allowed}},
		{tag: api.TagCodeScheme, needs: needs{filled, filled, allowed}},
		{tag: api.TagCodeMeaning, needs: needs{allowed, allowed, allowed}},
	}
}

func referenceAttributes() []attribute {
	return []attribute{
		{tag: api.TagRefClass, needs: needs{filled, filled, allowed}},
		{tag: api.TagRefInstance, needs: needs{filled, filled, allowed}},
	}
}

func stepAttributes() []attribute {
	return []attribute{
		{tag: api.TagAccession, needs: needs{given, given, allowed}},
		{tag: api.TagRefStudies, needs: needs{given, given, allowed}, items: inReference},
		{tag: api.TagStudyUID, needs: needs{filled, filled, allowed}},
		{tag: api.TagProcedureDesc, needs: needs{given, given, allowed}},
		{tag: api.TagStepDesc, needs: needs{given, given, allowed}},
		{tag: api.TagProtocolCodes, needs: needs{given, given, allowed}, items: inCode},
		{tag: api.TagStepID, needs: needs{given, given, allowed}},
		{tag: api.TagProcedureID, needs: needs{given, given, allowed}},
	}
}

func seriesAttributes() []attribute {
	return []attribute{
		{tag: api.TagRetrieveAE, needs: needs{given, given, allowed}},
		{tag: api.TagSeriesDesc, needs: needs{given, given, allowed}},
		{tag: api.TagPerformerName, needs: needs{given, given, allowed}},
		{tag: api.TagOperators, needs: needs{given, given, allowed}},
		{tag: api.TagRefImages, needs: needs{given, given, allowed}, items: inReference},
		{tag: api.TagProtocol, needs: needs{filled, filled, allowed}},
		{tag: api.TagSeriesUID, needs: needs{filled, filled, allowed}},
	}
}

// row gives what the table says of a tag on a level.
func (t table) row(level int, tag api.Tag) attribute {
	for _, a := range t[level] {
		if a.tag == tag {
			return a
		}
	}
	return attribute{}
}

// tags gives the tags of all that the table has on a level.
func (t table) tags(level int) tagSet {
	set := tagSet{}
	for _, a := range t[level] {
		set[a.tag] = struct{}{}
	}
	return set
}
