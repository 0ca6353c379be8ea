package upper

import "modality/api"

// The states.
const (
	sta1 = iota + 1
	sta2
	sta3
	sta4
	sta5
	sta6
	sta7
	sta8
	sta9
	sta10
	sta11
	sta12
	sta13
)

// The actions, with api's numbers, by names that are short enough for the table; and behind them what two of them are in the other case.
const (
	non = api.ActNone + iota
	ae1
	ae2
	ae3
	ae4
	ae5
	ae6
	ae7
	ae8
	dt1
	dt2
	ar1
	ar2
	ar3
	ar4
	ar5
	ar6
	ar7
	ar8
	ar9
	ar10
	aa1
	aa2
	aa3
	aa4
	aa5
	aa6
	aa7
	aa8
	ae6Bad      // AE-6 of a request that this side can't take
	ar8Answered // AR-8 of the side that did not ask for the association
)

// table is the state table: a line for each event but EvTick, a column for each state.
var table = [api.EvInvalid][sta13]uint8{
	api.EvAssociate - 1: {ae1, non, non, non, non, non, non, non, non, non, non, non, non},
	api.EvConnected - 1: {non, non, non, ae2, non, non, non, non, non, non, non, non, non},
	api.EvAcPdu - 1:     {non, aa1, aa8, non, ae3, aa8, aa8, aa8, aa8, aa8, aa8, aa8, aa6},
	api.EvRjPdu - 1:     {non, aa1, aa8, non, ae4, aa8, aa8, aa8, aa8, aa8, aa8, aa8, aa6},
	api.EvOpened - 1:    {ae5, non, non, non, non, non, non, non, non, non, non, non, non},
	api.EvRqPdu - 1:     {non, ae6, aa8, non, aa8, aa8, aa8, aa8, aa8, aa8, aa8, aa8, aa7},
	api.EvAccept - 1:    {non, non, ae7, non, non, non, non, non, non, non, non, non, non},
	api.EvReject - 1:    {non, non, ae8, non, non, non, non, non, non, non, non, non, non},
	api.EvData - 1:      {non, non, non, non, non, dt1, non, ar7, non, non, non, non, non},
	api.EvDataPdu - 1:   {non, aa1, aa8, non, aa8, dt2, ar6, aa8, aa8, aa8, aa8, aa8, aa6},
	api.EvRelease - 1:   {non, non, non, non, non, ar1, non, non, non, non, non, non, non},
	api.EvRqEnd - 1:     {non, aa1, aa8, non, aa8, ar2, ar8, aa8, aa8, aa8, aa8, aa8, aa6},
	api.EvRpEnd - 1:     {non, aa1, aa8, non, aa8, aa8, ar3, aa8, aa8, ar10, ar3, aa8, aa6},
	api.EvReleased - 1:  {non, non, non, non, non, non, non, ar4, ar9, non, non, ar4, non},
	api.EvAbort - 1:     {non, non, aa1, aa2, aa1, aa1, aa1, aa1, aa1, aa1, aa1, aa1, non},
	api.EvAbortPdu - 1:  {non, aa2, aa3, non, aa3, aa3, aa3, aa3, aa3, aa3, aa3, aa3, aa2},
	api.EvClosed - 1:    {non, aa5, aa4, aa4, aa4, aa4, aa4, aa4, aa4, aa4, aa4, aa4, ar5},
	api.EvExpired - 1:   {non, aa2, non, non, non, non, non, non, non, non, non, non, aa2},
	api.EvInvalid - 1:   {non, aa1, aa8, non, aa8, aa8, aa8, aa8, aa8, aa8, aa8, aa8, aa7},
}

// Action tells the action of the state table for a state and an event; api.ActNone: the event is none of that state (P9.1).
func Action(sta, event int) int {
	if sta < sta1 || sta > sta13 || event < api.EvAssociate || event > api.EvInvalid {
		return api.ActNone
	}
	return int(table[event-1][sta-1])
}

// comes is the event that a kind of PDU is when it comes.
var comes = [api.PduAbort + 1]uint8{
	api.PduRQ:        api.EvRqPdu,
	api.PduAC:        api.EvAcPdu,
	api.PduRJ:        api.EvRjPdu,
	api.PduData:      api.EvDataPdu,
	api.PduReleaseRQ: api.EvRqEnd,
	api.PduReleaseRP: api.EvRpEnd,
	api.PduAbort:     api.EvAbortPdu,
}

// EventOf tells the event that a PDU is when it comes, 0 for none (P9.3).
func EventOf(p api.Pdu) int {
	if p.Kind < api.PduRQ || p.Kind > api.PduAbort {
		return 0
	}
	return int(comes[p.Kind])
}

// needs is the kind of the PDU that an event must have; 0: it needs none.
var needs = [api.EvInvalid + 1]uint8{
	api.EvAssociate: api.PduRQ,
	api.EvAcPdu:     api.PduAC,
	api.EvRjPdu:     api.PduRJ,
	api.EvRqPdu:     api.PduRQ,
	api.EvAccept:    api.PduAC,
	api.EvReject:    api.PduRJ,
	api.EvData:      api.PduData,
	api.EvDataPdu:   api.PduData,
	api.EvRqEnd:     api.PduReleaseRQ,
	api.EvRpEnd:     api.PduReleaseRP,
	api.EvAbortPdu:  api.PduAbort,
}

// complete tells whether an event of the state table has the PDUs that its kind needs.
func complete(e *api.UpperEvent) bool {
	kind := int(needs[e.Kind])
	if kind != 0 && e.Pdu.Kind != kind {
		return false
	}
	return e.Kind != api.EvRqPdu || !e.Bad || e.Answer.Kind == api.PduRJ
}
