package scu

import (
	"modality/api"
	"modality/upper"
)

// deed is what a kind of Do does. One that is refused has told nothing.
type deed struct {
	does func(*Scanner, api.ScuDo, telling) error
}

// deeds gives the kinds of Do: a row's place is its kind's number.
func deeds() [api.DoTick + 1]deed {
	return [...]deed{
		api.DoConnect: {(*Scanner).connect},
		api.DoEcho:    {(*Scanner).echo},
		api.DoFind:    {(*Scanner).find},
		api.DoCancel:  {(*Scanner).cancel},
		api.DoCreate:  {(*Scanner).create},
		api.DoSet:     {(*Scanner).set},
		api.DoGet:     {(*Scanner).get},
		api.DoRelease: {(*Scanner).release},
		api.DoAbort:   {(*Scanner).abort},
		api.DoTick:    {(*Scanner).tick},
	}
}

func (s *Scanner) connect(_ api.ScuDo, tell telling) error {
	return s.want(api.UpperEvent{Kind: api.EvAssociate, Pdu: s.asking()}, tell)
}

func (s *Scanner) release(_ api.ScuDo, tell telling) error {
	return s.want(api.UpperEvent{Kind: api.EvRelease}, tell)
}

func (s *Scanner) abort(_ api.ScuDo, tell telling) error {
	return s.want(api.UpperEvent{Kind: api.EvAbort}, tell)
}

// want lets an event of the user happen, if the provider's state has it.
func (s *Scanner) want(e api.UpperEvent, tell telling) error {
	if upper.Action(s.sta(), e.Kind) == api.ActNone {
		return refusal(0, api.ErrScuState)
	}
	s.event(e, tell)
	return nil
}

func (s *Scanner) tick(d api.ScuDo, tell telling) error {
	if d.Count < 0 || d.Count > api.MaxCount {
		return refusal(1, api.ErrArg)
	}
	for range d.Count {
		s.event(api.UpperEvent{Kind: api.EvTick}, tell)
	}
	return nil
}

// asking is the A-ASSOCIATE-RQ: a context for each class, with every syntax.
func (s *Scanner) asking() api.Pdu {
	var syntaxes []string
	for _, x := range s.config.Syntaxes {
		syntaxes = append(syntaxes, uidOf(x))
	}
	var contexts []api.PresContext
	for i, class := range s.config.Classes {
		contexts = append(contexts, api.PresContext{Id: contextId(i), Class: class, Syntaxes: syntaxes})
	}
	return api.Pdu{Kind: api.PduRQ, Assoc: api.Associate{
		Version:  1,
		Called:   s.config.Called,
		Calling:  s.config.Title,
		App:      api.UIDContext,
		Contexts: contexts,
		User:     api.UserInfo{HasMax: true, MaxLength: s.config.Most, Class: api.UIDOurs, Name: api.NameOurs},
	}}
}

// contextId is the number of the context for the class at a place.
func contextId(place int) uint8 { return uint8(2*place + 1) }
