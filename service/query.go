package service

import (
	"slices"

	"modality/api"
	"modality/dataset"
	"modality/worklist"
)

// activity is what a service is busy with from turn to turn.
type activity interface {
	owed() int // answers that are still to be put out
	held() int // sizes of their data sets, in one form
}

// idle is the activity of a service in which no query runs.
type idle struct{}

func (idle) owed() int { return 0 }

func (idle) held() int { return 0 }

// query is a C-FIND that runs.
type query struct {
	asked   api.Message // what its answers are made from
	pending []pending   // those that are still to be put out
}

// pending is an answer ahead of the final one, and the size of its data set in one form.
type pending struct {
	answer api.Message
	size   int
}

func (q *query) owed() int { return len(q.pending) + 1 }

func (q *query) held() int {
	held := 0
	for _, p := range q.pending {
		held += p.size
	}
	return held
}

// next gives the answer of a turn, and tells whether it is the final one.
func (q *query) next() (answer api.Message, final bool) {
	if len(q.pending) == 0 {
		return answerTo(q.asked, api.Verdict{Status: api.StSuccess}), true
	}
	answer = q.pending[0].answer
	clear(q.pending[:1])
	q.pending = q.pending[1:]
	return answer, false
}

// find lets a query run over the schedule as it is at this moment (P15.6).
func (v *Service) find(a asked) {
	answers, warned, status, offending := worklist.Find(schedule(v.store.Steps()), a.nodes)
	switch {
	case status != api.StSuccess:
		v.say(answerTo(a.message, api.Verdict{Status: status, Offending: offending}))
	case isTooMuch(answers):
		v.say(answerTo(a.message, api.Verdict{Status: api.StTooMuch}))
	default:
		v.running = a.queryOf(answers, warned)
	}
}

// schedule gives the steps that a query sees.
func schedule(steps []api.Step) []api.Step {
	return slices.DeleteFunc(steps, func(s api.Step) bool {
		return s.Status != api.StepScheduled && s.Status != api.StepStarted
	})
}

// isTooMuch tells whether answers go beyond a limit. The sum stops there: it says no more.
func isTooMuch(answers [][]api.Node) bool {
	most, total := 0, 0
	for _, nodes := range answers {
		most = max(most, len(nodes))
		total = min(total+sizeOf(nodes), api.MaxAnswers+1)
	}
	return most > api.MaxNodes-1 || total > api.MaxAnswers
}

// sizeOf tells the size of an answer's data set in one form. One that can't be laid down is beyond every limit.
func sizeOf(nodes []api.Node) int {
	size, err := dataset.Size(nodes, api.Implicit)
	if err != nil {
		return api.MaxAnswers + 1
	}
	return size
}

// queryOf is the query with these answers, each laid down for the one who asked.
func (a *asked) queryOf(answers [][]api.Node, warned bool) *query {
	status := uint16(api.StPending)
	if warned {
		status = api.StWarning
	}
	q := &query{asked: headOf(a.message)}
	for _, nodes := range answers {
		answer := a.tell(answerTo(a.message, api.Verdict{Status: status}), nodes)
		q.pending = append(q.pending, pending{answer, sizeOf(nodes)})
	}
	return q
}
