package service

import (
	"errors"

	"modality/api"
	"modality/mpps"
)

func (v *Service) echo(a asked) {
	v.say(answerTo(a.message, api.Verdict{Status: api.StSuccess}))
}

// get tells of a performed step (P15.4).
func (v *Service) get(a asked) {
	told := mpps.Get(v.store.State(), a.message.Cmd.Instance, a.message.Cmd.Attrs)
	answer := answerTo(a.message, told)
	if told.Status == api.StSuccess {
		answer = a.tell(answer, told.Data)
	}
	v.say(answer)
}

// changing gives what is done for a request that changes a performed step by such a verdict (P15.5).
func (v *Service) changing(judge func(st api.State, uid string, ds []api.Node) api.Verdict) func(asked) {
	return func(a asked) {
		told := judge(v.store.State(), a.message.Cmd.Instance, a.nodes)
		err := v.put(told.Change)
		if errors.Is(err, api.ErrStoreOff) {
			v.endAll()
			return
		}
		if err != nil {
			told = api.Verdict{Status: api.StFailure}
		}
		v.say(answerTo(a.message, told))
	}
}

// put makes a change, if it is one, safe ahead of its answer.
func (v *Service) put(change api.Mutation) error {
	if change.Kind == 0 {
		return nil
	}
	return v.store.Put(change)
}
