package pdu

import "modality/api"

// fields is a sum of fields of a PDU.
type fields uint8

const (
	usesAssoc fields = 1 << iota
	usesResult
	usesSource
	usesReason
	usesValues
)

// form is what a kind of PDU is made of.
type form struct {
	uses        fields
	least, most uint32 // what its length may be
	check       func(p *api.Pdu)
	write       func(w *writer, p *api.Pdu)
	read        func(p *api.Pdu, uses fields, b []byte)
}

// formOf gives the row of a kind, if there is such a kind.
func formOf(kind int) (form, bool) {
	if kind < api.PduRQ || kind > api.PduAbort {
		return form{}, false
	}
	return forms()[kind], true
}

// forms gives the table: a row's place is its kind's number.
func forms() [api.PduAbort + 1]form {
	short := form{0, 4, 4, checkNothing, writeReasons, readReasons}
	reject, abort := short, short
	reject.uses = usesResult | usesSource | usesReason
	abort.uses = usesSource | usesReason
	return [...]form{
		api.PduRQ:        {usesAssoc, 0, api.MaxAssociate, checkRequest, writeAssociate, readAssociate},
		api.PduAC:        {usesAssoc, 0, api.MaxAssociate, checkAccept, writeAssociate, readAssociate},
		api.PduRJ:        reject,
		api.PduData:      {usesValues, 0, api.MaxPdu, checkValues, writeValues, readValues},
		api.PduReleaseRQ: short,
		api.PduReleaseRP: short,
		api.PduAbort:     abort,
	}
}
