package upper

import (
	"strings"

	"modality/api"
)

// versionOne is the bit of the protocol's version 1, the only one that there is.
const versionOne = 1

// For how long a request is rejected, and by what.
const (
	forGood = 1
	forNow  = 2

	byUser         = 1
	byAssociation  = 2 // the provider, in what concerns associations
	byPresentation = 3 // the provider, in what concerns presentation
)

// Why a request is rejected. What rejects has reasons of its own: so numbers come again.
const (
	userNoReason    = 1
	userContext     = 2
	userCalling     = 3
	userCalled      = 7
	providerVersion = 2
	providerLimit   = 2
)

// What becomes of a context that is asked for.
const (
	resultTaken    = 0
	resultNoClass  = 3
	resultNoSyntax = 4
)

// Negotiate tells how a server answers an association request (P9.7).
func Negotiate(rq api.Pdu, c api.Config, busy int) (ac api.Pdu, contexts []api.Context, most int, reject api.Pdu, ok bool) {
	if reject, ok = rejection(&rq, &c, busy); ok {
		return api.Pdu{}, nil, 0, reject, false
	}
	a := &rq.Assoc
	ac = acceptance(a)
	for i := range a.Contexts {
		answer, agreed := answerTo(&a.Contexts[i])
		ac.Assoc.Contexts = append(ac.Assoc.Contexts, answer)
		if answer.Result == resultTaken {
			contexts = append(contexts, agreed)
		}
	}
	return ac, contexts, mostFor(&a.User), api.Pdu{}, true
}

// rejection is the A-ASSOCIATE-RJ for a request, if it is rejected: the first reason holds.
func rejection(rq *api.Pdu, c *api.Config, busy int) (reject api.Pdu, rejected bool) {
	a := &rq.Assoc
	switch {
	case rq.Kind != api.PduRQ || a.Version&versionOne == 0:
		return rejectedFor(forGood, byAssociation, providerVersion), true
	case a.App != api.UIDContext:
		return rejectedFor(forGood, byUser, userContext), true
	case !sameTitle(a.Called, c.Title):
		return rejectedFor(forGood, byUser, userCalled), true
	case !mayCall(a.Calling, c.Callers):
		return rejectedFor(forGood, byUser, userCalling), true
	case tooShort(&a.User):
		return rejectedFor(forGood, byUser, userNoReason), true
	case busy >= c.Lines:
		return rejectedFor(forNow, byPresentation, providerLimit), true
	}
	return api.Pdu{}, false
}

func rejectedFor(result, source, reason uint8) api.Pdu {
	return api.Pdu{Kind: api.PduRJ, Result: result, Source: source, Reason: reason}
}

func sameTitle(one, other string) bool {
	return strings.Trim(one, " ") == strings.Trim(other, " ")
}

// mayCall: a server that names no callers takes all.
func mayCall(calling string, callers []string) bool {
	for _, caller := range callers {
		if sameTitle(calling, caller) {
			return true
		}
	}
	return len(callers) == 0
}

// maxTold is the greatest length that the other side wants; 0: it has not said, or wants no limit.
func maxTold(u *api.UserInfo) uint32 {
	if !u.HasMax {
		return 0
	}
	return u.MaxLength
}

func tooShort(u *api.UserInfo) bool {
	told := maxTold(u)
	return told > 0 && told < api.MinPdu
}

// mostFor is the greatest length that the server keeps to.
func mostFor(u *api.UserInfo) int {
	told := maxTold(u)
	if told == 0 || told > api.MaxPdu {
		return api.MaxPdu
	}
	return int(told)
}

// acceptance is the A-ASSOCIATE-AC for a request, but for its contexts.
func acceptance(a *api.Associate) api.Pdu {
	return api.Pdu{Kind: api.PduAC, Assoc: api.Associate{
		Version: versionOne,
		Called:  a.Called,
		Calling: a.Calling,
		App:     api.UIDContext,
		User:    api.UserInfo{HasMax: true, MaxLength: api.MaxPdu, Class: api.UIDOurs, Name: api.NameOurs},
	}}
}

// answerTo is the answer to a context that is asked for, and, if it is taken, what is agreed.
func answerTo(c *api.PresContext) (answer api.PresContext, agreed api.Context) {
	if !serves(c.Class) {
		return api.PresContext{Id: c.Id, Result: resultNoClass}, api.Context{}
	}
	for _, uid := range c.Syntaxes {
		if syntax, ok := syntaxOf(uid); ok {
			return api.PresContext{Id: c.Id, Result: resultTaken, Syntaxes: []string{uid}}, api.Context{Id: c.Id, Class: c.Class, Syntax: syntax}
		}
	}
	return api.PresContext{Id: c.Id, Result: resultNoSyntax}, api.Context{}
}

func serves(class string) bool {
	switch class {
	case api.UIDVerify, api.UIDWorklist, api.UIDPerform, api.UIDRetrieve:
		return true
	}
	return false
}

func syntaxOf(uid string) (api.Syntax, bool) {
	switch uid {
	case api.UIDImplicit:
		return api.Implicit, true
	case api.UIDExplicit:
		return api.Explicit, true
	}
	return 0, false
}
