package upper_test

import (
	"strings"

	"modality/api"
)

// model is a provider that goes by the document's tables, read as text.
type model struct {
	tables *document // read once, and not changed
	artim  int
	state  api.UpperState
	kept   api.Pdu
}

func newModel(tables *document, artim int) *model {
	return &model{tables: tables, artim: artim, state: api.UpperState{Sta: 1}}
}

// do is Do by the words of P9.5.
func (m *model) do(e api.UpperEvent) []api.UpperAct {
	if e.Kind == api.EvTick {
		if !m.state.Timed {
			return nil
		}
		m.state.Left--
		if m.state.Left > 0 {
			return nil
		}
		m.state.Timed = false
		return m.do(api.UpperEvent{Kind: api.EvExpired})
	}
	name := m.tables.actions[cell{m.state.Sta, e.Kind}]
	if name == "" {
		return nil
	}
	if kind := kindOf(e.Kind); kind != 0 && kind != e.Pdu.Kind {
		return nil
	}
	if e.Kind == api.EvRqPdu && e.Bad && e.Answer.Kind != api.PduRJ {
		return nil
	}
	return m.act(m.tables.rows[caseOf(name, m.state.Asked, e.Bad)], name, e)
}

// act does what a row says, in its order.
func (m *model) act(r row, name string, e api.UpperEvent) []api.UpperAct {
	var acts []api.UpperAct
	for _, what := range r.does {
		verb, object, _ := strings.Cut(what, " ")
		switch verb {
		case "keep":
			m.kept = clone(e.Pdu)
		case "connect":
			acts = append(acts, connectAct())
		case "answer":
			acts = append(acts, answerAct())
		case "shut":
			acts = append(acts, shutAct())
		case "send":
			acts = append(acts, sendAct(m.sends(object, e)))
		case "tell":
			acts = append(acts, tells(object, e))
		}
	}
	switch r.timer {
	case "start":
		m.state.Timed, m.state.Left = true, m.artim
	case "stop":
		m.state.Timed, m.state.Left = false, 0
	}
	switch name {
	case "AE-1":
		m.state.Asked = true
	case "AE-5":
		m.state.Asked = false
	}
	m.state.Sta = r.then
	if r.then == 1 {
		m.state.Asked, m.kept = false, api.Pdu{}
	}
	return acts
}

// sends is the PDU that goes out.
func (m *model) sends(object string, e api.UpperEvent) api.Pdu {
	switch object {
	case "kept":
		return clone(m.kept)
	case "answer":
		return clone(e.Answer)
	case "rq":
		return api.Pdu{Kind: 5}
	case "rp":
		return api.Pdu{Kind: 6}
	case "abort00":
		return abortPdu(0, 0)
	case "abort2":
		if e.Kind == 19 {
			return abortPdu(2, e.Reason)
		}
		return abortPdu(2, 2)
	}
	return clone(e.Pdu)
}

// tells is what the user is told.
func tells(object string, e api.UpperEvent) api.UpperAct {
	words := map[string]int{"Associate": 1, "Accepted": 2, "Rejected": 3, "Data": 4, "Release": 5, "Released": 6, "Abort": 7, "Broken": 8}
	word, with, _ := strings.Cut(object, " ")
	if first, other, two := strings.Cut(word, "/"); two {
		word = first
		if e.Pdu.Source != 0 {
			word = other
		}
	}
	act := tellAct(words[word])
	if with == "pdu" {
		act.Pdu = clone(e.Pdu)
	}
	return act
}
