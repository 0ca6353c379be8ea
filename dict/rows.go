package dict

import "modality/api"

// commandRows: the groups 0000 and 0002: command sets, and the head of a file.
func commandRows(yield func(row) bool) {
	give(yield, []row{
		{0x00000000, api.VRUL, 1, 1, "CommandGroupLength"},
		{0x00000002, api.VRUI, 1, 1, "AffectedSOPClassUID"},
		{0x00000003, api.VRUI, 1, 1, "RequestedSOPClassUID"},
		{0x00000100, api.VRUS, 1, 1, "CommandField"},
		{0x00000110, api.VRUS, 1, 1, "MessageID"},
		{0x00000120, api.VRUS, 1, 1, "MessageIDBeingRespondedTo"},
		{0x00000600, api.VRAE, 1, 1, "MoveDestination"},
		{0x00000700, api.VRUS, 1, 1, "Priority"},
		{0x00000800, api.VRUS, 1, 1, "CommandDataSetType"},
		{0x00000900, api.VRUS, 1, 1, "Status"},
		{0x00000901, api.VRAT, 1, many, "OffendingElement"},
		{0x00000902, api.VRLO, 1, 1, "ErrorComment"},
		{0x00000903, api.VRUS, 1, 1, "ErrorID"},
		{0x00001000, api.VRUI, 1, 1, "AffectedSOPInstanceUID"},
		{0x00001001, api.VRUI, 1, 1, "RequestedSOPInstanceUID"},
		{0x00001002, api.VRUS, 1, 1, "EventTypeID"},
		{0x00001005, api.VRAT, 1, many, "AttributeIdentifierList"},
		{0x00001008, api.VRUS, 1, 1, "ActionTypeID"},
		{0x00020000, api.VRUL, 1, 1, "FileMetaInformationGroupLength"},
		{0x00020001, api.VROB, 1, 1, "FileMetaInformationVersion"},
		{0x00020002, api.VRUI, 1, 1, "MediaStorageSOPClassUID"},
		{0x00020003, api.VRUI, 1, 1, "MediaStorageSOPInstanceUID"},
		{0x00020010, api.VRUI, 1, 1, "TransferSyntaxUID"},
		{0x00020012, api.VRUI, 1, 1, "ImplementationClassUID"},
		{0x00020013, api.VRSH, 1, 1, "ImplementationVersionName"},
	})
}

// identityRows: the group 0008 below 1000: what identifies a study and its objects.
func identityRows(yield func(row) bool) {
	give(yield, []row{
		{0x00080005, api.VRCS, 1, many, "SpecificCharacterSet"},
		{0x00080008, api.VRCS, 2, many, "ImageType"},
		{0x00080012, api.VRDA, 1, 1, "InstanceCreationDate"},
		{0x00080013, api.VRTM, 1, 1, "InstanceCreationTime"},
		{0x00080014, api.VRUI, 1, 1, "InstanceCreatorUID"},
		{0x00080016, api.VRUI, 1, 1, "SOPClassUID"},
		{0x00080018, api.VRUI, 1, 1, "SOPInstanceUID"},
		{0x00080020, api.VRDA, 1, 1, "StudyDate"},
		{0x00080021, api.VRDA, 1, 1, "SeriesDate"},
		{0x00080022, api.VRDA, 1, 1, "AcquisitionDate"},
		{0x00080023, api.VRDA, 1, 1, "ContentDate"},
		{0x0008002A, api.VRDT, 1, 1, "AcquisitionDateTime"},
		{0x00080030, api.VRTM, 1, 1, "StudyTime"},
		{0x00080031, api.VRTM, 1, 1, "SeriesTime"},
		{0x00080032, api.VRTM, 1, 1, "AcquisitionTime"},
		{0x00080033, api.VRTM, 1, 1, "ContentTime"},
		{0x00080050, api.VRSH, 1, 1, "AccessionNumber"},
		{0x00080051, api.VRSQ, 1, 1, "IssuerOfAccessionNumberSequence"},
		{0x00080052, api.VRCS, 1, 1, "QueryRetrieveLevel"},
		{0x00080054, api.VRAE, 1, many, "RetrieveAETitle"},
		{0x00080056, api.VRCS, 1, 1, "InstanceAvailability"},
		{0x00080058, api.VRUI, 1, many, "FailedSOPInstanceUIDList"},
		{0x00080060, api.VRCS, 1, 1, "Modality"},
		{0x00080061, api.VRCS, 1, many, "ModalitiesInStudy"},
		{0x00080064, api.VRCS, 1, 1, "ConversionType"},
		{0x00080070, api.VRLO, 1, 1, "Manufacturer"},
		{0x00080080, api.VRLO, 1, 1, "InstitutionName"},
		{0x00080081, api.VRST, 1, 1, "InstitutionAddress"},
		{0x00080082, api.VRSQ, 1, 1, "InstitutionCodeSequence"},
		{0x00080090, api.VRPN, 1, 1, "ReferringPhysicianName"},
		{0x00080092, api.VRST, 1, 1, "ReferringPhysicianAddress"},
		{0x00080094, api.VRSH, 1, many, "ReferringPhysicianTelephoneNumbers"},
		{0x00080096, api.VRSQ, 1, 1, "ReferringPhysicianIdentificationSequence"},
		{0x00080100, api.VRSH, 1, 1, "CodeValue"},
		{0x00080102, api.VRSH, 1, 1, "CodingSchemeDesignator"},
		{0x00080103, api.VRSH, 1, 1, "CodingSchemeVersion"},
		{0x00080104, api.VRLO, 1, 1, "CodeMeaning"},
		{0x00080105, api.VRCS, 1, 1, "MappingResource"},
		{0x00080106, api.VRDT, 1, 1, "ContextGroupVersion"},
		{0x0008010F, api.VRCS, 1, 1, "ContextIdentifier"},
		{0x00080119, api.VRUC, 1, 1, "LongCodeValue"},
		{0x00080120, api.VRUR, 1, 1, "URNCodeValue"},
		{0x00080201, api.VRSH, 1, 1, "TimezoneOffsetFromUTC"},
	})
}

// contextRows: the rest of the group 0008: where, by whom and with what.
func contextRows(yield func(row) bool) {
	give(yield, []row{
		{0x00081010, api.VRSH, 1, 1, "StationName"},
		{0x00081030, api.VRLO, 1, 1, "StudyDescription"},
		{0x00081032, api.VRSQ, 1, 1, "ProcedureCodeSequence"},
		{0x0008103E, api.VRLO, 1, 1, "SeriesDescription"},
		{0x00081040, api.VRLO, 1, 1, "InstitutionalDepartmentName"},
		{0x00081048, api.VRPN, 1, many, "PhysiciansOfRecord"},
		{0x00081050, api.VRPN, 1, many, "PerformingPhysicianName"},
		{0x00081060, api.VRPN, 1, many, "NameOfPhysiciansReadingStudy"},
		{0x00081070, api.VRPN, 1, many, "OperatorsName"},
		{0x00081080, api.VRLO, 1, many, "AdmittingDiagnosesDescription"},
		{0x00081084, api.VRSQ, 1, 1, "AdmittingDiagnosesCodeSequence"},
		{0x00081090, api.VRLO, 1, 1, "ManufacturerModelName"},
		{0x00081110, api.VRSQ, 1, 1, "ReferencedStudySequence"},
		{0x00081111, api.VRSQ, 1, 1, "ReferencedPerformedProcedureStepSequence"},
		{0x00081115, api.VRSQ, 1, 1, "ReferencedSeriesSequence"},
		{0x00081120, api.VRSQ, 1, 1, "ReferencedPatientSequence"},
		{0x00081140, api.VRSQ, 1, 1, "ReferencedImageSequence"},
		{0x00081150, api.VRUI, 1, 1, "ReferencedSOPClassUID"},
		{0x00081155, api.VRUI, 1, 1, "ReferencedSOPInstanceUID"},
		{0x00081160, api.VRIS, 1, many, "ReferencedFrameNumber"},
		{0x00081195, api.VRUI, 1, 1, "TransactionUID"},
		{0x00081197, api.VRUS, 1, 1, "FailureReason"},
		{0x00081198, api.VRSQ, 1, 1, "FailedSOPSequence"},
		{0x00081199, api.VRSQ, 1, 1, "ReferencedSOPSequence"},
		{0x00082111, api.VRST, 1, 1, "DerivationDescription"},
	})
}

// patientRows: the group 0010: the patient.
func patientRows(yield func(row) bool) {
	give(yield, []row{
		{0x00100010, api.VRPN, 1, 1, "PatientName"},
		{0x00100020, api.VRLO, 1, 1, "PatientID"},
		{0x00100021, api.VRLO, 1, 1, "IssuerOfPatientID"},
		{0x00100022, api.VRCS, 1, 1, "TypeOfPatientID"},
		{0x00100024, api.VRSQ, 1, 1, "IssuerOfPatientIDQualifiersSequence"},
		{0x00100030, api.VRDA, 1, 1, "PatientBirthDate"},
		{0x00100032, api.VRTM, 1, 1, "PatientBirthTime"},
		{0x00100040, api.VRCS, 1, 1, "PatientSex"},
		{0x00101000, api.VRLO, 1, many, "OtherPatientIDs"},
		{0x00101001, api.VRPN, 1, many, "OtherPatientNames"},
		{0x00101002, api.VRSQ, 1, 1, "OtherPatientIDsSequence"},
		{0x00101005, api.VRPN, 1, 1, "PatientBirthName"},
		{0x00101010, api.VRAS, 1, 1, "PatientAge"},
		{0x00101020, api.VRDS, 1, 1, "PatientSize"},
		{0x00101030, api.VRDS, 1, 1, "PatientWeight"},
		{0x00101040, api.VRLO, 1, 1, "PatientAddress"},
		{0x00101060, api.VRPN, 1, 1, "PatientMotherBirthName"},
		{0x00101080, api.VRLO, 1, 1, "MilitaryRank"},
		{0x00102000, api.VRLO, 1, many, "MedicalAlerts"},
		{0x00102110, api.VRLO, 1, many, "Allergies"},
		{0x00102154, api.VRSH, 1, many, "PatientTelephoneNumbers"},
		{0x00102160, api.VRSH, 1, 1, "EthnicGroup"},
		{0x00102180, api.VRSH, 1, 1, "Occupation"},
		{0x001021A0, api.VRCS, 1, 1, "SmokingStatus"},
		{0x001021B0, api.VRLT, 1, 1, "AdditionalPatientHistory"},
		{0x001021C0, api.VRUS, 1, 1, "PregnancyStatus"},
		{0x001021D0, api.VRDA, 1, 1, "LastMenstrualDate"},
		{0x001021F0, api.VRLO, 1, 1, "PatientReligiousPreference"},
		{0x00104000, api.VRLT, 1, 1, "PatientComments"},
	})
}

// imageRows: the groups 0018, 0020 and 0028: how an image was made, and how it lies.
func imageRows(yield func(row) bool) {
	give(yield, []row{
		{0x00180010, api.VRLO, 1, 1, "ContrastBolusAgent"},
		{0x00180015, api.VRCS, 1, 1, "BodyPartExamined"},
		{0x00181000, api.VRLO, 1, 1, "DeviceSerialNumber"},
		{0x00181030, api.VRLO, 1, 1, "ProtocolName"},
		{0x0018115E, api.VRDS, 1, 1, "ImageAndFluoroscopyAreaDoseProduct"},
		{0x00186016, api.VRUL, 1, 1, "RegionFlags"},
		{0x00186020, api.VRSL, 1, 1, "ReferencePixelX0"},
		{0x00189073, api.VRFD, 1, 1, "AcquisitionDuration"},
		{0x00189074, api.VRDT, 1, 1, "FrameAcquisitionDateTime"},
		{0x00189219, api.VRSS, 1, 1, "TagAngleSecondAxis"},
		{0x0020000D, api.VRUI, 1, 1, "StudyInstanceUID"},
		{0x0020000E, api.VRUI, 1, 1, "SeriesInstanceUID"},
		{0x00200010, api.VRSH, 1, 1, "StudyID"},
		{0x00200011, api.VRIS, 1, 1, "SeriesNumber"},
		{0x00200012, api.VRIS, 1, 1, "AcquisitionNumber"},
		{0x00200013, api.VRIS, 1, 1, "InstanceNumber"},
		{0x00200052, api.VRUI, 1, 1, "FrameOfReferenceUID"},
		{0x00200060, api.VRCS, 1, 1, "Laterality"},
		{0x00201208, api.VRIS, 1, 1, "NumberOfStudyRelatedInstances"},
		{0x00204000, api.VRLT, 1, 1, "ImageComments"},
		{0x00280002, api.VRUS, 1, 1, "SamplesPerPixel"},
		{0x00280004, api.VRCS, 1, 1, "PhotometricInterpretation"},
		{0x00280008, api.VRIS, 1, 1, "NumberOfFrames"},
		{0x00280010, api.VRUS, 1, 1, "Rows"},
		{0x00280011, api.VRUS, 1, 1, "Columns"},
		{0x00280030, api.VRDS, 2, 2, "PixelSpacing"},
		{0x00280100, api.VRUS, 1, 1, "BitsAllocated"},
		{0x00280101, api.VRUS, 1, 1, "BitsStored"},
		{0x00281050, api.VRDS, 1, many, "WindowCenter"},
		{0x00281051, api.VRDS, 1, many, "WindowWidth"},
	})
}

// visitRows: the groups 0032 and 0038: what was asked for, and the visit.
func visitRows(yield func(row) bool) {
	give(yield, []row{
		{0x00321032, api.VRPN, 1, 1, "RequestingPhysician"},
		{0x00321033, api.VRLO, 1, 1, "RequestingService"},
		{0x00321060, api.VRLO, 1, 1, "RequestedProcedureDescription"},
		{0x00321064, api.VRSQ, 1, 1, "RequestedProcedureCodeSequence"},
		{0x00321070, api.VRLO, 1, 1, "RequestedContrastAgent"},
		{0x00380004, api.VRSQ, 1, 1, "ReferencedPatientAliasSequence"},
		{0x00380008, api.VRCS, 1, 1, "VisitStatusID"},
		{0x00380010, api.VRLO, 1, 1, "AdmissionID"},
		{0x00380014, api.VRSQ, 1, 1, "IssuerOfAdmissionIDSequence"},
		{0x00380050, api.VRLO, 1, 1, "SpecialNeeds"},
		{0x00380300, api.VRLO, 1, 1, "CurrentPatientLocation"},
		{0x00380400, api.VRLO, 1, 1, "PatientInstitutionResidence"},
		{0x00380500, api.VRLO, 1, 1, "PatientState"},
		{0x00384000, api.VRLT, 1, 1, "VisitComments"},
	})
}

// scheduledRows: the group 0040 below 0241: the scheduled step.
func scheduledRows(yield func(row) bool) {
	give(yield, []row{
		{0x00400001, api.VRAE, 1, many, "ScheduledStationAETitle"},
		{0x00400002, api.VRDA, 1, 1, "ScheduledProcedureStepStartDate"},
		{0x00400003, api.VRTM, 1, 1, "ScheduledProcedureStepStartTime"},
		{0x00400004, api.VRDA, 1, 1, "ScheduledProcedureStepEndDate"},
		{0x00400005, api.VRTM, 1, 1, "ScheduledProcedureStepEndTime"},
		{0x00400006, api.VRPN, 1, 1, "ScheduledPerformingPhysicianName"},
		{0x00400007, api.VRLO, 1, 1, "ScheduledProcedureStepDescription"},
		{0x00400008, api.VRSQ, 1, 1, "ScheduledProtocolCodeSequence"},
		{0x00400009, api.VRSH, 1, 1, "ScheduledProcedureStepID"},
		{0x0040000A, api.VRSQ, 1, 1, "StageCodeSequence"},
		{0x00400010, api.VRSH, 1, many, "ScheduledStationName"},
		{0x00400011, api.VRSH, 1, 1, "ScheduledProcedureStepLocation"},
		{0x00400012, api.VRLO, 1, 1, "PreMedication"},
		{0x00400020, api.VRCS, 1, 1, "ScheduledProcedureStepStatus"},
		{0x00400026, api.VRSQ, 1, 1, "OrderPlacerIdentifierSequence"},
		{0x00400027, api.VRSQ, 1, 1, "OrderFillerIdentifierSequence"},
		{0x00400100, api.VRSQ, 1, 1, "ScheduledProcedureStepSequence"},
		{0x00400220, api.VRSQ, 1, 1, "ReferencedNonImageCompositeSOPInstanceSequence"},
	})
}

// performedRows: the group 0040 from 0241 to below 1000: the performed step.
func performedRows(yield func(row) bool) {
	give(yield, []row{
		{0x00400241, api.VRAE, 1, 1, "PerformedStationAETitle"},
		{0x00400242, api.VRSH, 1, 1, "PerformedStationName"},
		{0x00400243, api.VRSH, 1, 1, "PerformedLocation"},
		{0x00400244, api.VRDA, 1, 1, "PerformedProcedureStepStartDate"},
		{0x00400245, api.VRTM, 1, 1, "PerformedProcedureStepStartTime"},
		{0x00400250, api.VRDA, 1, 1, "PerformedProcedureStepEndDate"},
		{0x00400251, api.VRTM, 1, 1, "PerformedProcedureStepEndTime"},
		{0x00400252, api.VRCS, 1, 1, "PerformedProcedureStepStatus"},
		{0x00400253, api.VRSH, 1, 1, "PerformedProcedureStepID"},
		{0x00400254, api.VRLO, 1, 1, "PerformedProcedureStepDescription"},
		{0x00400255, api.VRLO, 1, 1, "PerformedProcedureTypeDescription"},
		{0x00400260, api.VRSQ, 1, 1, "PerformedProtocolCodeSequence"},
		{0x00400270, api.VRSQ, 1, 1, "ScheduledStepAttributesSequence"},
		{0x00400275, api.VRSQ, 1, 1, "RequestAttributesSequence"},
		{0x00400280, api.VRST, 1, 1, "CommentsOnThePerformedProcedureStep"},
		{0x00400281, api.VRSQ, 1, 1, "PerformedProcedureStepDiscontinuationReasonCodeSequence"},
		{0x00400293, api.VRSQ, 1, 1, "QuantitySequence"},
		{0x00400294, api.VRDS, 1, 1, "Quantity"},
		{0x00400295, api.VRSQ, 1, 1, "MeasuringUnitsSequence"},
		{0x00400296, api.VRSQ, 1, 1, "BillingItemSequence"},
		{0x00400300, api.VRUS, 1, 1, "TotalTimeOfFluoroscopy"},
		{0x00400301, api.VRUS, 1, 1, "TotalNumberOfExposures"},
		{0x00400302, api.VRUS, 1, 1, "EntranceDose"},
		{0x00400303, api.VRUS, 1, 2, "ExposedArea"},
		{0x00400306, api.VRDS, 1, 1, "DistanceSourceToEntrance"},
		{0x0040030E, api.VRSQ, 1, 1, "ExposureDoseSequence"},
		{0x00400310, api.VRST, 1, 1, "CommentsOnRadiationDose"},
		{0x00400314, api.VRDS, 1, 1, "HalfValueLayer"},
		{0x00400316, api.VRDS, 1, 1, "OrganDose"},
		{0x00400318, api.VRCS, 1, 1, "OrganExposed"},
		{0x00400320, api.VRSQ, 1, 1, "BillingProcedureStepSequence"},
		{0x00400321, api.VRSQ, 1, 1, "FilmConsumptionSequence"},
		{0x00400324, api.VRSQ, 1, 1, "BillingSuppliesAndDevicesSequence"},
		{0x00400340, api.VRSQ, 1, 1, "PerformedSeriesSequence"},
		{0x00400400, api.VRLT, 1, 1, "CommentsOnTheScheduledProcedureStep"},
		{0x00400440, api.VRSQ, 1, 1, "ProtocolContextSequence"},
	})
}

// requestRows: the rest of the group 0040: the requested procedure, and concepts.
func requestRows(yield func(row) bool) {
	give(yield, []row{
		{0x00401001, api.VRSH, 1, 1, "RequestedProcedureID"},
		{0x00401002, api.VRLO, 1, 1, "ReasonForTheRequestedProcedure"},
		{0x00401003, api.VRSH, 1, 1, "RequestedProcedurePriority"},
		{0x00401004, api.VRLO, 1, 1, "PatientTransportArrangements"},
		{0x00401005, api.VRLO, 1, 1, "RequestedProcedureLocation"},
		{0x00401008, api.VRLO, 1, 1, "ConfidentialityCode"},
		{0x00401009, api.VRSH, 1, 1, "ReportingPriority"},
		{0x0040100A, api.VRSQ, 1, 1, "ReasonForRequestedProcedureCodeSequence"},
		{0x00401010, api.VRPN, 1, many, "NamesOfIntendedRecipientsOfResults"},
		{0x00401400, api.VRLT, 1, 1, "RequestedProcedureComments"},
		{0x00402004, api.VRDA, 1, 1, "IssueDateOfImagingServiceRequest"},
		{0x00402005, api.VRTM, 1, 1, "IssueTimeOfImagingServiceRequest"},
		{0x00402008, api.VRPN, 1, 1, "OrderEnteredBy"},
		{0x00402010, api.VRSH, 1, 1, "OrderCallbackPhoneNumber"},
		{0x00402016, api.VRLO, 1, 1, "PlacerOrderNumberImagingServiceRequest"},
		{0x00402017, api.VRLO, 1, 1, "FillerOrderNumberImagingServiceRequest"},
		{0x00402400, api.VRLT, 1, 1, "ImagingServiceRequestComments"},
		{0x00403001, api.VRLO, 1, 1, "ConfidentialityConstraintOnPatientDataDescription"},
		{0x0040A040, api.VRCS, 1, 1, "ValueType"},
		{0x0040A043, api.VRSQ, 1, 1, "ConceptNameCodeSequence"},
		{0x0040A160, api.VRUT, 1, 1, "TextValue"},
		{0x0040A168, api.VRSQ, 1, 1, "ConceptCodeSequence"},
		{0x0040A30A, api.VRDS, 1, many, "NumericValue"},
	})
}

// drawingRows: all above: graphics, overlays, pixels.
func drawingRows(yield func(row) bool) {
	give(yield, []row{
		{0x00700020, api.VRUS, 1, 1, "GraphicDimensions"},
		{0x00700022, api.VRFL, 2, many, "GraphicData"},
		{0x60000010, api.VRUS, 1, 1, "OverlayRows"},
		{0x60000011, api.VRUS, 1, 1, "OverlayColumns"},
		{0x60000022, api.VRLO, 1, 1, "OverlayDescription"},
		{0x60000040, api.VRCS, 1, 1, "OverlayType"},
		{0x60000050, api.VRSS, 2, 2, "OverlayOrigin"},
		{0x60003000, api.VROW, 1, 1, "OverlayData"},
		{0x7FE00010, api.VROW, 1, 1, "PixelData"},
		{0xFFFCFFFC, api.VROB, 1, 1, "DataSetTrailingPadding"},
	})
}
