package service

import (
	"slices"

	"modality/api"
)

// request is a message that asks, as it waits or is begun.
type request struct {
	message   api.Message
	cancelled bool
}

// mayRun tells whether a request that waits may come to be a query that runs.
func (r request) mayRun() bool { return r.message.Cmd.Field == api.CFind && !r.cancelled }

// isRequest tells whether a command asks for an answer.
func isRequest(field uint16) bool {
	switch field {
	case api.CStore, api.CGet, api.CFind, api.CMove, api.CEcho:
		return true
	}
	return isNormalized(field)
}

// isNormalized tells whether a request is one of the N- commands.
func isNormalized(field uint16) bool {
	switch field {
	case api.NReport, api.NGet, api.NSet, api.NAction, api.NCreate, api.NDelete:
		return true
	}
	return false
}

// copyOf is a message that outlives the call to which it was handed: of its lists it has those that are looked at later.
func copyOf(m api.Message) api.Message {
	m.Data = slices.Clone(m.Data)
	m.Cmd.Attrs = slices.Clone(m.Cmd.Attrs)
	m.Cmd.Offending = nil
	return m
}

// headOf is what of a message its answers are made from.
func headOf(m api.Message) api.Message {
	c := m.Cmd
	return api.Message{Context: m.Context, Cmd: api.Cmd{Field: c.Field, Class: c.Class, Instance: c.Instance, Id: c.Id}}
}

// answerTo is the answer to a message by which it is told a verdict, without a data set.
func answerTo(m api.Message, told api.Verdict) api.Message {
	c := api.Cmd{
		Field:     m.Cmd.Field | api.IsAnswer,
		Class:     m.Cmd.Class,
		To:        m.Cmd.Id,
		Status:    told.Status,
		Offending: told.Offending,
		ErrorId:   told.ErrorId,
	}
	if isNormalized(m.Cmd.Field) {
		c.Instance = m.Cmd.Instance
	}
	return api.Message{Context: m.Context, Cmd: c}
}
