package service

import (
	"modality/api"
	"modality/charset"
	"modality/dataset"
	"modality/mpps"
)

// serving is a command that a class serves.
type serving struct {
	class  string
	field  uint16
	unread uint16 // the status of a data set that can't be read; 0: the command has none
	does   func(asked)
}

// asked is a request that is begun, with its data set in one form.
type asked struct {
	message api.Message
	syntax  api.Syntax
	set     string // the character set that its data set names
	nodes   []api.Node
}

// served tells what is served (P15.3).
func (v *Service) served() []serving {
	return []serving{
		{api.UIDVerify, api.CEcho, 0, v.echo},
		{api.UIDWorklist, api.CFind, api.StIdent, v.find},
		{api.UIDPerform, api.NSet, api.StFailure, v.changing(mpps.Set)},
		{api.UIDPerform, api.NCreate, api.StFailure, v.changing(mpps.Create)},
		{api.UIDRetrieve, api.NGet, 0, v.get},
	}
}

// begin answers a request, or lets its query run (P15.3).
func (v *Service) begin(r request) {
	m, context := r.message, v.contexts[r.message.Context]
	refused := api.Verdict{Status: api.StOperation}
checks:
	for _, s := range v.served() {
		switch {
		case r.cancelled:
			refused.Status = api.StCancelled
			break checks
		case m.Cmd.Class != context.Class:
			refused.Status = notOfClass(m.Cmd.Field)
			break checks
		case s.class != context.Class, s.field != m.Cmd.Field:
			continue checks
		case m.Cmd.HasData != (s.unread != 0):
			refused.Status = api.StMistyped
			break checks
		}
		a := asked{message: m, syntax: context.Syntax}
		if refused = a.read(s.unread); refused.Status != api.StSuccess {
			break checks
		}
		s.does(a)
		return
	}
	v.say(answerTo(m, refused))
}

// notOfClass is the status of a request whose class is not its context's.
func notOfClass(field uint16) uint16 {
	if isNormalized(field) {
		return api.StClass
	}
	return api.StNotClass
}

// read brings the request's data set, if it has one, into one form; what can't be read is told with the status unread.
func (a *asked) read(unread uint16) api.Verdict {
	if !a.message.Cmd.HasData {
		return api.Verdict{}
	}
	raw, err := dataset.Decode(a.message.Data, a.syntax)
	if err != nil {
		return api.Verdict{Status: unread}
	}
	a.set = namedSet(raw)
	a.nodes, err = charset.Unify(raw)
	if err != nil {
		return api.Verdict{Status: unread, Offending: []api.Tag{api.TagCharset}}
	}
	return api.Verdict{}
}

// namedSet tells the character set that the top level of a data set names. (An item's own says nothing of the whole.)
func namedSet(nodes []api.Node) string {
	inside := 0 // how many nodes of the top element that was begun are still to come
	for _, n := range nodes {
		if inside == 0 && n.Tag == api.TagCharset {
			return n.Value
		}
		inside = max(inside-1, 0) + n.N
	}
	return ""
}

// tell gives an answer its data set, laid down for the one who asked. Where that can't be laid down it has no bytes: what Express and Encode refuse is empty.
func (a *asked) tell(answer api.Message, nodes []api.Node) api.Message {
	expressed, _ := charset.Express(nodes, a.set)
	answer.Cmd.HasData = true
	answer.Data, _ = dataset.Encode(expressed, a.syntax)
	return answer
}
