package dict_test

import (
	"maps"
	"slices"
	"strconv"
	"strings"
	"testing"

	"modality/api"
	"modality/dict"
)

// documentLines is the dictionary as the document tells it: tag, VR, how many values, keyword.
const documentLines = `0000,0000 UL 1 CommandGroupLength
0000,0002 UI 1 AffectedSOPClassUID
0000,0003 UI 1 RequestedSOPClassUID
0000,0100 US 1 CommandField
0000,0110 US 1 MessageID
0000,0120 US 1 MessageIDBeingRespondedTo
0000,0600 AE 1 MoveDestination
0000,0700 US 1 Priority
0000,0800 US 1 CommandDataSetType
0000,0900 US 1 Status
0000,0901 AT 1-n OffendingElement
0000,0902 LO 1 ErrorComment
0000,0903 US 1 ErrorID
0000,1000 UI 1 AffectedSOPInstanceUID
0000,1001 UI 1 RequestedSOPInstanceUID
0000,1002 US 1 EventTypeID
0000,1005 AT 1-n AttributeIdentifierList
0000,1008 US 1 ActionTypeID
0002,0000 UL 1 FileMetaInformationGroupLength
0002,0001 OB 1 FileMetaInformationVersion
0002,0002 UI 1 MediaStorageSOPClassUID
0002,0003 UI 1 MediaStorageSOPInstanceUID
0002,0010 UI 1 TransferSyntaxUID
0002,0012 UI 1 ImplementationClassUID
0002,0013 SH 1 ImplementationVersionName
0008,0005 CS 1-n SpecificCharacterSet
0008,0008 CS 2-n ImageType
0008,0012 DA 1 InstanceCreationDate
0008,0013 TM 1 InstanceCreationTime
0008,0014 UI 1 InstanceCreatorUID
0008,0016 UI 1 SOPClassUID
0008,0018 UI 1 SOPInstanceUID
0008,0020 DA 1 StudyDate
0008,0021 DA 1 SeriesDate
0008,0022 DA 1 AcquisitionDate
0008,0023 DA 1 ContentDate
0008,002A DT 1 AcquisitionDateTime
0008,0030 TM 1 StudyTime
0008,0031 TM 1 SeriesTime
0008,0032 TM 1 AcquisitionTime
0008,0033 TM 1 ContentTime
0008,0050 SH 1 AccessionNumber
0008,0051 SQ 1 IssuerOfAccessionNumberSequence
0008,0052 CS 1 QueryRetrieveLevel
0008,0054 AE 1-n RetrieveAETitle
0008,0056 CS 1 InstanceAvailability
0008,0058 UI 1-n FailedSOPInstanceUIDList
0008,0060 CS 1 Modality
0008,0061 CS 1-n ModalitiesInStudy
0008,0064 CS 1 ConversionType
0008,0070 LO 1 Manufacturer
0008,0080 LO 1 InstitutionName
0008,0081 ST 1 InstitutionAddress
0008,0082 SQ 1 InstitutionCodeSequence
0008,0090 PN 1 ReferringPhysicianName
0008,0092 ST 1 ReferringPhysicianAddress
0008,0094 SH 1-n ReferringPhysicianTelephoneNumbers
0008,0096 SQ 1 ReferringPhysicianIdentificationSequence
0008,0100 SH 1 CodeValue
0008,0102 SH 1 CodingSchemeDesignator
0008,0103 SH 1 CodingSchemeVersion
0008,0104 LO 1 CodeMeaning
0008,0105 CS 1 MappingResource
0008,0106 DT 1 ContextGroupVersion
0008,010F CS 1 ContextIdentifier
0008,0119 UC 1 LongCodeValue
0008,0120 UR 1 URNCodeValue
0008,0201 SH 1 TimezoneOffsetFromUTC
0008,1010 SH 1 StationName
0008,1030 LO 1 StudyDescription
0008,1032 SQ 1 ProcedureCodeSequence
0008,103E LO 1 SeriesDescription
0008,1040 LO 1 InstitutionalDepartmentName
0008,1048 PN 1-n PhysiciansOfRecord
0008,1050 PN 1-n PerformingPhysicianName
0008,1060 PN 1-n NameOfPhysiciansReadingStudy
0008,1070 PN 1-n OperatorsName
0008,1080 LO 1-n AdmittingDiagnosesDescription
0008,1084 SQ 1 AdmittingDiagnosesCodeSequence
0008,1090 LO 1 ManufacturerModelName
0008,1110 SQ 1 ReferencedStudySequence
0008,1111 SQ 1 ReferencedPerformedProcedureStepSequence
0008,1115 SQ 1 ReferencedSeriesSequence
0008,1120 SQ 1 ReferencedPatientSequence
0008,1140 SQ 1 ReferencedImageSequence
0008,1150 UI 1 ReferencedSOPClassUID
0008,1155 UI 1 ReferencedSOPInstanceUID
0008,1160 IS 1-n ReferencedFrameNumber
0008,1195 UI 1 TransactionUID
0008,1197 US 1 FailureReason
0008,1198 SQ 1 FailedSOPSequence
0008,1199 SQ 1 ReferencedSOPSequence
0008,2111 ST 1 DerivationDescription
0010,0010 PN 1 PatientName
0010,0020 LO 1 PatientID
0010,0021 LO 1 IssuerOfPatientID
0010,0022 CS 1 TypeOfPatientID
0010,0024 SQ 1 IssuerOfPatientIDQualifiersSequence
0010,0030 DA 1 PatientBirthDate
0010,0032 TM 1 PatientBirthTime
0010,0040 CS 1 PatientSex
0010,1000 LO 1-n OtherPatientIDs
0010,1001 PN 1-n OtherPatientNames
0010,1002 SQ 1 OtherPatientIDsSequence
0010,1005 PN 1 PatientBirthName
0010,1010 AS 1 PatientAge
0010,1020 DS 1 PatientSize
0010,1030 DS 1 PatientWeight
0010,1040 LO 1 PatientAddress
0010,1060 PN 1 PatientMotherBirthName
0010,1080 LO 1 MilitaryRank
0010,2000 LO 1-n MedicalAlerts
0010,2110 LO 1-n Allergies
0010,2154 SH 1-n PatientTelephoneNumbers
0010,2160 SH 1 EthnicGroup
0010,2180 SH 1 Occupation
0010,21A0 CS 1 SmokingStatus
0010,21B0 LT 1 AdditionalPatientHistory
0010,21C0 US 1 PregnancyStatus
0010,21D0 DA 1 LastMenstrualDate
0010,21F0 LO 1 PatientReligiousPreference
0010,4000 LT 1 PatientComments
0018,0010 LO 1 ContrastBolusAgent
0018,0015 CS 1 BodyPartExamined
0018,1000 LO 1 DeviceSerialNumber
0018,1030 LO 1 ProtocolName
0018,115E DS 1 ImageAndFluoroscopyAreaDoseProduct
0018,6016 UL 1 RegionFlags
0018,6020 SL 1 ReferencePixelX0
0018,9073 FD 1 AcquisitionDuration
0018,9074 DT 1 FrameAcquisitionDateTime
0018,9219 SS 1 TagAngleSecondAxis
0020,000D UI 1 StudyInstanceUID
0020,000E UI 1 SeriesInstanceUID
0020,0010 SH 1 StudyID
0020,0011 IS 1 SeriesNumber
0020,0012 IS 1 AcquisitionNumber
0020,0013 IS 1 InstanceNumber
0020,0052 UI 1 FrameOfReferenceUID
0020,0060 CS 1 Laterality
0020,1208 IS 1 NumberOfStudyRelatedInstances
0020,4000 LT 1 ImageComments
0028,0002 US 1 SamplesPerPixel
0028,0004 CS 1 PhotometricInterpretation
0028,0008 IS 1 NumberOfFrames
0028,0010 US 1 Rows
0028,0011 US 1 Columns
0028,0030 DS 2 PixelSpacing
0028,0100 US 1 BitsAllocated
0028,0101 US 1 BitsStored
0028,1050 DS 1-n WindowCenter
0028,1051 DS 1-n WindowWidth
0032,1032 PN 1 RequestingPhysician
0032,1033 LO 1 RequestingService
0032,1060 LO 1 RequestedProcedureDescription
0032,1064 SQ 1 RequestedProcedureCodeSequence
0032,1070 LO 1 RequestedContrastAgent
0038,0004 SQ 1 ReferencedPatientAliasSequence
0038,0008 CS 1 VisitStatusID
0038,0010 LO 1 AdmissionID
0038,0014 SQ 1 IssuerOfAdmissionIDSequence
0038,0050 LO 1 SpecialNeeds
0038,0300 LO 1 CurrentPatientLocation
0038,0400 LO 1 PatientInstitutionResidence
0038,0500 LO 1 PatientState
0038,4000 LT 1 VisitComments
0040,0001 AE 1-n ScheduledStationAETitle
0040,0002 DA 1 ScheduledProcedureStepStartDate
0040,0003 TM 1 ScheduledProcedureStepStartTime
0040,0004 DA 1 ScheduledProcedureStepEndDate
0040,0005 TM 1 ScheduledProcedureStepEndTime
0040,0006 PN 1 ScheduledPerformingPhysicianName
0040,0007 LO 1 ScheduledProcedureStepDescription
0040,0008 SQ 1 ScheduledProtocolCodeSequence
0040,0009 SH 1 ScheduledProcedureStepID
0040,000A SQ 1 StageCodeSequence
0040,0010 SH 1-n ScheduledStationName
0040,0011 SH 1 ScheduledProcedureStepLocation
0040,0012 LO 1 PreMedication
0040,0020 CS 1 ScheduledProcedureStepStatus
0040,0026 SQ 1 OrderPlacerIdentifierSequence
0040,0027 SQ 1 OrderFillerIdentifierSequence
0040,0100 SQ 1 ScheduledProcedureStepSequence
0040,0220 SQ 1 ReferencedNonImageCompositeSOPInstanceSequence
0040,0241 AE 1 PerformedStationAETitle
0040,0242 SH 1 PerformedStationName
0040,0243 SH 1 PerformedLocation
0040,0244 DA 1 PerformedProcedureStepStartDate
0040,0245 TM 1 PerformedProcedureStepStartTime
0040,0250 DA 1 PerformedProcedureStepEndDate
0040,0251 TM 1 PerformedProcedureStepEndTime
0040,0252 CS 1 PerformedProcedureStepStatus
0040,0253 SH 1 PerformedProcedureStepID
0040,0254 LO 1 PerformedProcedureStepDescription
0040,0255 LO 1 PerformedProcedureTypeDescription
0040,0260 SQ 1 PerformedProtocolCodeSequence
0040,0270 SQ 1 ScheduledStepAttributesSequence
0040,0275 SQ 1 RequestAttributesSequence
0040,0280 ST 1 CommentsOnThePerformedProcedureStep
0040,0281 SQ 1 PerformedProcedureStepDiscontinuationReasonCodeSequence
0040,0293 SQ 1 QuantitySequence
0040,0294 DS 1 Quantity
0040,0295 SQ 1 MeasuringUnitsSequence
0040,0296 SQ 1 BillingItemSequence
0040,0300 US 1 TotalTimeOfFluoroscopy
0040,0301 US 1 TotalNumberOfExposures
0040,0302 US 1 EntranceDose
0040,0303 US 1-2 ExposedArea
0040,0306 DS 1 DistanceSourceToEntrance
0040,030E SQ 1 ExposureDoseSequence
0040,0310 ST 1 CommentsOnRadiationDose
0040,0314 DS 1 HalfValueLayer
0040,0316 DS 1 OrganDose
0040,0318 CS 1 OrganExposed
0040,0320 SQ 1 BillingProcedureStepSequence
0040,0321 SQ 1 FilmConsumptionSequence
0040,0324 SQ 1 BillingSuppliesAndDevicesSequence
0040,0340 SQ 1 PerformedSeriesSequence
0040,0400 LT 1 CommentsOnTheScheduledProcedureStep
0040,0440 SQ 1 ProtocolContextSequence
0040,1001 SH 1 RequestedProcedureID
0040,1002 LO 1 ReasonForTheRequestedProcedure
0040,1003 SH 1 RequestedProcedurePriority
0040,1004 LO 1 PatientTransportArrangements
0040,1005 LO 1 RequestedProcedureLocation
0040,1008 LO 1 ConfidentialityCode
0040,1009 SH 1 ReportingPriority
0040,100A SQ 1 ReasonForRequestedProcedureCodeSequence
0040,1010 PN 1-n NamesOfIntendedRecipientsOfResults
0040,1400 LT 1 RequestedProcedureComments
0040,2004 DA 1 IssueDateOfImagingServiceRequest
0040,2005 TM 1 IssueTimeOfImagingServiceRequest
0040,2008 PN 1 OrderEnteredBy
0040,2010 SH 1 OrderCallbackPhoneNumber
0040,2016 LO 1 PlacerOrderNumberImagingServiceRequest
0040,2017 LO 1 FillerOrderNumberImagingServiceRequest
0040,2400 LT 1 ImagingServiceRequestComments
0040,3001 LO 1 ConfidentialityConstraintOnPatientDataDescription
0040,A040 CS 1 ValueType
0040,A043 SQ 1 ConceptNameCodeSequence
0040,A160 UT 1 TextValue
0040,A168 SQ 1 ConceptCodeSequence
0040,A30A DS 1-n NumericValue
0070,0020 US 1 GraphicDimensions
0070,0022 FL 2-n GraphicData
60xx,0010 US 1 OverlayRows
60xx,0011 US 1 OverlayColumns
60xx,0022 LO 1 OverlayDescription
60xx,0040 CS 1 OverlayType
60xx,0050 SS 2 OverlayOrigin
60xx,3000 OW 1 OverlayData
7FE0,0010 OW 1 PixelData
FFFC,FFFC OB 1 DataSetTrailingPadding`

// documentTable is the document's table of VRs.
const documentTable = `| AE | VRAE 1 | space | 1 | 16 | yes | | yes | |
| AS | VRAS 2 | space | 1 | 4 | yes | | yes | |
| AT | VRAT 3 | 0 | 4 | 4 | | | yes | |
| CS | VRCS 4 | space | 1 | 16 | yes | | yes | |
| DA | VRDA 5 | space | 1 | 8 | yes | | yes | |
| DS | VRDS 6 | space | 1 | 16 | yes | | yes | |
| DT | VRDT 7 | space | 1 | 26 | yes | | yes | |
| FD | VRFD 8 | 0 | 8 | 8 | | | yes | |
| FL | VRFL 9 | 0 | 4 | 4 | | | yes | |
| IS | VRIS 10 | space | 1 | 12 | yes | | yes | |
| LO | VRLO 11 | space | 1 | 64 | yes | yes | yes | |
| LT | VRLT 12 | space | 1 | 10240 | yes | yes | | |
| OB | VROB 13 | 0 | 1 | 0 | | | | yes |
| OW | VROW 14 | 0 | 2 | 0 | | | | yes |
| PN | VRPN 15 | space | 1 | 64 | yes | yes | yes | |
| SH | VRSH 16 | space | 1 | 16 | yes | yes | yes | |
| SL | VRSL 17 | 0 | 4 | 4 | | | yes | |
| SQ | VRSQ 18 | 0 | 1 | 0 | | | | yes |
| SS | VRSS 19 | 0 | 2 | 2 | | | yes | |
| ST | VRST 20 | space | 1 | 1024 | yes | yes | | |
| TM | VRTM 21 | space | 1 | 14 | yes | | yes | |
| UC | VRUC 22 | space | 1 | 0 | yes | yes | yes | yes |
| UI | VRUI 23 | 0 | 1 | 64 | yes | | yes | |
| UL | VRUL 24 | 0 | 4 | 4 | | | yes | |
| UN | VRUN 25 | 0 | 1 | 0 | | | | yes |
| UR | VRUR 26 | space | 1 | 0 | yes | | | yes |
| US | VRUS 27 | 0 | 2 | 2 | | | yes | |
| UT | VRUT 28 | space | 1 | 0 | yes | yes | | yes |`

// vrNumbers tells the VRs by their letters, not as the package does.
var vrNumbers = map[string]api.VR{
	"AE": 1, "AS": 2, "AT": 3, "CS": 4, "DA": 5, "DS": 6, "DT": 7, "FD": 8, "FL": 9, "IS": 10,
	"LO": 11, "LT": 12, "OB": 13, "OW": 14, "PN": 15, "SH": 16, "SL": 17, "SQ": 18, "SS": 19, "ST": 20,
	"TM": 21, "UC": 22, "UI": 23, "UL": 24, "UN": 25, "UR": 26, "US": 27, "UT": 28,
}

// allVRs gives the table's VRs, rising.
func allVRs() []api.VR { return slices.Sorted(maps.Values(vrNumbers)) }

// noVRs are numbers that are none of the table's.
var noVRs = []api.VR{api.VRNone, api.VRItem, api.VRItem + 1, -1, -18, 1 << 40, -1 << 63, 1<<63 - 1}

// documentEntries reads the document's lines.
func documentEntries(t *testing.T) []api.DictEntry {
	t.Helper()
	counts := map[string][2]int{"1": {1, 1}, "2": {2, 2}, "1-2": {1, 2}, "1-n": {1, 0}, "2-n": {2, 0}}
	var list []api.DictEntry
	for line := range strings.SplitSeq(documentLines, "\n") {
		f := strings.Fields(line)
		e := api.DictEntry{Mask: 0xFFFFFFFF, VR: vrNumbers[f[1]], Keyword: f[3]}
		if strings.HasPrefix(f[0], "60xx") {
			e.Mask = 0xFFE1FFFF
		}
		n, err := strconv.ParseUint(strings.NewReplacer("xx", "00", ",", "").Replace(f[0]), 16, 32)
		count, ok := counts[f[2]]
		if err != nil || !ok || e.VR == 0 {
			t.Fatalf("line %q", line)
		}
		e.Tag, e.Least, e.Most = api.Tag(n), count[0], count[1]
		list = append(list, e)
	}
	return list
}

// documentInfos reads the document's table.
func documentInfos(t *testing.T) map[api.VR]api.VRInfo {
	t.Helper()
	infos := map[api.VR]api.VRInfo{}
	for line := range strings.SplitSeq(documentTable, "\n") {
		f := strings.Split(line, "|")[1:10]
		for i := range f {
			f[i] = strings.TrimSpace(f[i])
		}
		info := api.VRInfo{Name: f[0], Text: f[5] == "yes", Chars: f[6] == "yes", Multi: f[7] == "yes", Long: f[8] == "yes"}
		if f[2] == "space" {
			info.Pad = 32
		}
		info.Unit, _ = strconv.Atoi(f[3])
		info.Most, _ = strconv.Atoi(f[4])
		name, number, _ := strings.Cut(f[1], " ")
		n, err := strconv.Atoi(number)
		if err != nil || name != "VR"+f[0] || vrNumbers[f[0]] != api.VR(n) {
			t.Fatalf("line %q", line)
		}
		infos[api.VR(n)] = info
	}
	return infos
}

func TestEntries(t *testing.T) {
	want := documentEntries(t)
	if len(want) != 253 {
		t.Fatalf("the document has %d lines", len(want))
	}
	seq := dict.Entries()
	for range 2 {
		if got := slices.Collect(seq); !slices.Equal(got, want) {
			t.Fatalf("P3.1: %v", got)
		}
	}
	if !slices.IsSortedFunc(want, func(a, b api.DictEntry) int { return int(int64(a.Tag) - int64(b.Tag)) }) {
		t.Error("P3.1: the lines do not rise")
	}
}

func TestEntriesLeftEarly(t *testing.T) {
	want := documentEntries(t)
	for stop := range len(want) {
		n := 0
		for e := range dict.Entries() {
			if e != want[n] {
				t.Fatalf("P3.1: place %d: %v", n, e)
			}
			if n == stop {
				break
			}
			n++
		}
		if n != stop {
			t.Fatalf("P3.1: left at %d, ended at %d", stop, n)
		}
	}
}

// TestEntriesInEntries ranges over the dictionary while it is ranged over.
func TestEntriesInEntries(t *testing.T) {
	want := documentEntries(t)
	n := 0
	seq := dict.Entries()
	for range seq {
		inner := 0
		for range seq {
			inner++
		}
		if inner != len(want) {
			t.Fatalf("P3.1: %d inside", inner)
		}
		n++
	}
	if n != len(want) {
		t.Fatalf("P3.1: %d", n)
	}
}
