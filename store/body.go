package store

import (
	"modality/api"
	"modality/dataset"
)

// body is a mutation with just what its kind uses.
type body interface {
	// lay puts the bytes of the record behind those that are there.
	lay(b []byte) []byte
	mutation() api.Mutation
}

// The four kinds of bodies.
type (
	stepsBody struct {
		control string
		steps   []api.Step
	}
	goneBody struct {
		control string
		ids     []string
	}
	perfBody struct {
		perf  api.Perf
		moves []api.Move
	}
	baseBody struct {
		control string
	}
)

// bodyOf gives the body of a mutation that Formed takes.
func bodyOf(m api.Mutation) body {
	switch m.Kind {
	case api.MStep:
		return stepsBody{m.Control, m.Steps}
	case api.MGone:
		return goneBody{m.Control, m.IDs}
	case api.MPerf:
		return perfBody{m.Perf, m.Moves}
	}
	return baseBody{m.Control}
}

func (x stepsBody) mutation() api.Mutation {
	return api.Mutation{Kind: api.MStep, Control: x.control, Steps: x.steps}
}

func (x goneBody) mutation() api.Mutation {
	return api.Mutation{Kind: api.MGone, Control: x.control, IDs: x.ids}
}

func (x perfBody) mutation() api.Mutation {
	return api.Mutation{Kind: api.MPerf, Perf: x.perf, Moves: x.moves}
}

func (x baseBody) mutation() api.Mutation {
	return api.Mutation{Kind: api.MBase, Control: x.control}
}

func (x stepsBody) lay(b []byte) []byte {
	b = putText(putNumber(b, byteSize, api.MStep), x.control)
	b = putNumber(b, byteSize, len(x.steps))
	for _, s := range x.steps {
		for _, text := range textsOf(s) {
			b = putText(b, text)
		}
		b = putNumber(b, byteSize, s.Status)
	}
	return b
}

func (x goneBody) lay(b []byte) []byte {
	b = putText(putNumber(b, byteSize, api.MGone), x.control)
	b = putNumber(b, byteSize, len(x.ids))
	for _, id := range x.ids {
		b = putText(b, id)
	}
	return b
}

func (x perfBody) lay(b []byte) []byte {
	data, _ := dataset.Encode(x.perf.Data, api.Implicit) // no refusal: Formed has taken it
	b = putText(putNumber(b, byteSize, api.MPerf), x.perf.UID)
	b = putNumber(b, byteSize, x.perf.State)
	b = append(putNumber(b, dataSize, len(data)), data...)
	b = putNumber(b, shortSize, len(x.moves))
	for _, m := range x.moves {
		b = putNumber(putText(b, m.ID), byteSize, m.Status)
	}
	return b
}

func (x baseBody) lay(b []byte) []byte {
	return putText(putNumber(b, byteSize, api.MBase), x.control)
}
