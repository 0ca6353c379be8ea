package store

import (
	"errors"
	"slices"
	"strings"

	"modality/api"
)

// The acknowledgement's codes.
const (
	codeTaken  = "AA"
	codeError  = "AE"
	codeReject = "AR"
)

// The acknowledgement's words.
const (
	wordsControl = "no control ID"
	wordsVerb    = "order control"
	wordsMany    = "how many orders"
	wordsTwice   = "step twice"
	wordsThere   = "step is there"
	wordsNone    = "no such step"
	wordsBegun   = "step has begun"
	wordsValue   = "value"
	wordsFull    = "schedule is full"
	wordsRoom    = "no room"
)

// Order makes what an order message asks for, and tells its acknowledgement (P12.10).
func (s *Store) Order(o api.Order) (code, words string, err error) {
	if err := s.usable(); err != nil {
		return "", "", err
	}
	switch {
	case o.Control != "" && o.Control == s.rows.control:
		return codeTaken, "", nil
	case o.Code != "":
		return o.Code, o.Words, nil
	case o.Control == "" || !controlFits(o.Control):
		return codeReject, wordsControl, nil
	}
	if words := s.rows.objection(o); words != "" {
		return codeError, words, nil
	}
	err = s.Put(orderMutation(o))
	switch {
	case errors.Is(err, api.ErrStoreFull):
		return codeError, wordsRoom, nil
	case err != nil:
		return "", "", err
	}
	return codeTaken, "", nil
}

// objection tells in words why the schedule does not take an order; "" if it does.
func (t *tables) objection(o api.Order) string {
	ids := orderIDs(o)
	there := t.count(ids)
	switch {
	case !within(o.Verb, api.OrderNew, api.OrderCancel):
		return wordsVerb
	case !within(len(ids), 1, api.MaxGroup):
		return wordsMany
	case hasTwo(ids):
		return wordsTwice
	case o.Verb == api.OrderNew && there > 0:
		return wordsThere
	case o.Verb != api.OrderNew && there < len(ids):
		return wordsNone
	case o.Verb != api.OrderNew && t.hasBegun(o.Verb, ids):
		return wordsBegun
	case o.Verb != api.OrderCancel && !every(scheduled(o.Steps), rowFits):
		return wordsValue
	case o.Verb == api.OrderNew && t.room() < len(ids):
		return wordsFull
	}
	return ""
}

// hasBegun: a change must find its steps untouched, a cancellation must only find nobody at work on them.
func (t *tables) hasBegun(verb int, ids []string) bool {
	if verb == api.OrderCancel {
		return !every(ids, t.mayGo)
	}
	return !every(ids, t.awaits)
}

// orderIDs gives the IDs of the steps that an order is about, in its own order.
func orderIDs(o api.Order) []string {
	if o.Verb == api.OrderCancel {
		return o.IDs
	}
	return idsOf(o.Steps)
}

func hasTwo(ids []string) bool {
	sorted := slices.Sorted(slices.Values(ids))
	return !rises(sorted, itself)
}

// orderMutation is what an order changes.
func orderMutation(o api.Order) api.Mutation {
	if o.Verb == api.OrderCancel {
		return api.Mutation{Kind: api.MGone, Control: o.Control, IDs: slices.Sorted(slices.Values(o.IDs))}
	}
	steps := scheduled(o.Steps)
	slices.SortFunc(steps, func(a, b api.Step) int { return strings.Compare(a.ID, b.ID) })
	return api.Mutation{Kind: api.MStep, Control: o.Control, Steps: steps}
}

// scheduled gives the steps as an order leaves them, whatever status they came with.
func scheduled(steps []api.Step) []api.Step {
	list := slices.Clone(steps)
	for i := range list {
		list[i].Status = api.StepScheduled
	}
	return list
}
