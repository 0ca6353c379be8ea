package upper

import "modality/api"

// Where an A-ABORT comes from, and why.
const (
	fromUser         = 0
	fromProvider     = 2
	reasonUnexpected = 2
)

// action is what a provider does, what becomes of its timer, and the state behind it.
type action struct {
	does  func(p *Provider, e *api.UpperEvent, word int) []api.UpperAct
	word  int // what the user is told, if it is told something
	timer int
	then  int
}

// After tells the state behind an action (P9.2).
func After(action, sta int, asked, bad bool) int {
	if action < api.ActAE1 || action > api.ActAA8 {
		return sta
	}
	return actionOf(action, asked, bad).then
}

// actionOf gives the row of an action, by the case in which it is done.
func actionOf(number int, asked, bad bool) action {
	switch {
	case number == ae6 && bad:
		number = ae6Bad
	case number == ar8 && !asked:
		number = ar8Answered
	}
	return actions()[number]
}

// actions gives the table: a row's place is its action's number.
func actions() [ar8Answered + 1]action {
	return [...]action{
		ae1:         {connect, 0, goesOn, sta4},
		ae2:         {sendKept, 0, goesOn, sta5},
		ae3:         {tellPdu, api.TellAccepted, goesOn, sta6},
		ae4:         {tellPduAndShut, api.TellRejected, goesOn, sta1},
		ae5:         {answer, 0, starts, sta2},
		ae6:         {tellPdu, api.TellAssociate, stops, sta3},
		ae6Bad:      {sendAnswer, 0, starts, sta13},
		ae7:         {sendPdu, 0, goesOn, sta6},
		ae8:         {sendPdu, 0, starts, sta13},
		dt1:         {sendPdu, 0, goesOn, sta6},
		dt2:         {tellPdu, api.TellData, goesOn, sta6},
		ar1:         {askForEnd, 0, goesOn, sta7},
		ar2:         {tell, api.TellRelease, goesOn, sta8},
		ar3:         {tellAndShut, api.TellReleased, goesOn, sta1},
		ar4:         {agreeToEnd, 0, starts, sta13},
		ar5:         {nothing, 0, stops, sta1},
		ar6:         {tellPdu, api.TellData, goesOn, sta7},
		ar7:         {sendPdu, 0, goesOn, sta8},
		ar8:         {tell, api.TellRelease, goesOn, sta9},
		ar8Answered: {tell, api.TellRelease, goesOn, sta10},
		ar9:         {agreeToEnd, 0, goesOn, sta11},
		ar10:        {tell, api.TellReleased, goesOn, sta12},
		aa1:         {abortForUser, 0, starts, sta13},
		aa2:         {shut, 0, stops, sta1},
		aa3:         {tellAbort, 0, goesOn, sta1},
		aa4:         {tell, api.TellBroken, goesOn, sta1},
		aa5:         {nothing, 0, stops, sta1},
		aa6:         {nothing, 0, goesOn, sta13},
		aa7:         {abort, 0, goesOn, sta13},
		aa8:         {abortAndTell, api.TellBroken, starts, sta13},
	}
}

func nothing(*Provider, *api.UpperEvent, int) []api.UpperAct { return nil }

func connect(p *Provider, e *api.UpperEvent, _ int) []api.UpperAct {
	p.asked, p.kept = true, copied(e.Pdu)
	return []api.UpperAct{{Kind: api.UpConnect}}
}

// answer need not note that this side has not asked: an idle provider never has.
func answer(*Provider, *api.UpperEvent, int) []api.UpperAct {
	return []api.UpperAct{{Kind: api.UpAnswer}}
}

// sendKept lets the request go as well: nothing asks for it a second time.
func sendKept(p *Provider, _ *api.UpperEvent, _ int) []api.UpperAct {
	kept := p.kept
	p.kept = api.Pdu{}
	return []api.UpperAct{sent(copied(kept))}
}

func sendPdu(_ *Provider, e *api.UpperEvent, _ int) []api.UpperAct {
	return []api.UpperAct{sent(copied(e.Pdu))}
}

func sendAnswer(_ *Provider, e *api.UpperEvent, _ int) []api.UpperAct {
	return []api.UpperAct{sent(copied(e.Answer))}
}

func askForEnd(*Provider, *api.UpperEvent, int) []api.UpperAct {
	return []api.UpperAct{sent(api.Pdu{Kind: api.PduReleaseRQ})}
}

func agreeToEnd(*Provider, *api.UpperEvent, int) []api.UpperAct {
	return []api.UpperAct{sent(api.Pdu{Kind: api.PduReleaseRP})}
}

func tell(_ *Provider, _ *api.UpperEvent, word int) []api.UpperAct {
	return []api.UpperAct{told(word, api.Pdu{})}
}

func tellPdu(_ *Provider, e *api.UpperEvent, word int) []api.UpperAct {
	return []api.UpperAct{told(word, copied(e.Pdu))}
}

func tellAndShut(_ *Provider, _ *api.UpperEvent, word int) []api.UpperAct {
	return []api.UpperAct{told(word, api.Pdu{}), {Kind: api.UpShut}}
}

func tellPduAndShut(_ *Provider, e *api.UpperEvent, word int) []api.UpperAct {
	return []api.UpperAct{told(word, copied(e.Pdu)), {Kind: api.UpShut}}
}

// tellAbort: the PDU that came says whether the other user aborts or its provider.
func tellAbort(p *Provider, e *api.UpperEvent, _ int) []api.UpperAct {
	if e.Pdu.Source == fromUser {
		return tellPduAndShut(p, e, api.TellAbort)
	}
	return tellPduAndShut(p, e, api.TellBroken)
}

func shut(*Provider, *api.UpperEvent, int) []api.UpperAct {
	return []api.UpperAct{{Kind: api.UpShut}}
}

func abortForUser(*Provider, *api.UpperEvent, int) []api.UpperAct {
	return []api.UpperAct{sent(api.Pdu{Kind: api.PduAbort, Source: fromUser})}
}

func abort(_ *Provider, e *api.UpperEvent, _ int) []api.UpperAct {
	return []api.UpperAct{aborted(e)}
}

func abortAndTell(_ *Provider, e *api.UpperEvent, word int) []api.UpperAct {
	return []api.UpperAct{aborted(e), told(word, api.Pdu{})}
}

func sent(p api.Pdu) api.UpperAct { return api.UpperAct{Kind: api.UpSend, Pdu: p} }

func told(word int, p api.Pdu) api.UpperAct {
	return api.UpperAct{Kind: api.UpTell, Word: word, Pdu: p}
}

// aborted is the provider's own A-ABORT.
func aborted(e *api.UpperEvent) api.UpperAct {
	reason := uint8(reasonUnexpected)
	if e.Kind == api.EvInvalid {
		reason = e.Reason
	}
	return sent(api.Pdu{Kind: api.PduAbort, Source: fromProvider, Reason: reason})
}
