package dimse

import (
	"errors"
	"math"
	"slices"

	"modality/api"
)

// The states of a joiner. The zero Joiner is none.
const (
	noJoiner = iota
	awaitsMessage
	awaitsCommand // a message is begun
	awaitsData    // its command is whole
	hasRefused
)

// Joiner joins fragments to messages.
type Joiner struct {
	state  int
	server bool
	agreed [math.MaxUint8 + 1]bool // by the contexts' numbers
	begun  message
}

// message is what has come of one.
type message struct {
	context uint8
	command api.Cmd // once it is whole
	size    int     // of the command's bytes, once it is whole
	bytes   []byte  // of the part that comes
}

// NewJoiner gives a joiner for these contexts; a server's takes requests alone (P10.5).
func NewJoiner(contexts []api.Context, server bool) *Joiner {
	j := &Joiner{state: awaitsMessage, server: server}
	for _, c := range contexts {
		j.agreed[c.Id] = true
	}
	return j
}

// Take takes a fragment, and tells the message that it completes (P10.5).
func (j *Joiner) Take(v api.Pdv) (api.Message, bool, error) {
	if j == nil || j.state == noJoiner {
		return api.Message{}, false, refusal(0, api.ErrZero)
	}
	if j.state == hasRefused {
		return api.Message{}, false, refusal(0, api.ErrDimseOver)
	}
	whole, err := j.join(v)
	if err != nil {
		*j = Joiner{state: hasRefused}
		return api.Message{}, false, err
	}
	if !whole {
		return api.Message{}, false, nil
	}
	return j.tell(), true, nil
}

// Held tells how many bytes are held (P10.6).
func (j *Joiner) Held() int {
	if j == nil {
		return 0
	}
	return j.begun.size + len(j.begun.bytes)
}

// join puts a fragment behind what is held, and tells whether the message is whole.
func (j *Joiner) join(v api.Pdv) (whole bool, err error) {
	if err := j.check(v); err != nil {
		return false, err
	}
	j.hold(v)
	if v.Last && v.Command {
		return j.endCommand()
	}
	return v.Last, nil
}

// check refuses a fragment that may not come now.
func (j *Joiner) check(v api.Pdv) error {
	awaited, most := j.state == awaitsData, api.MaxCommand
	if awaited {
		most = api.MaxData
	}
	switch {
	case !j.agreed[v.Context], j.state != awaitsMessage && v.Context != j.begun.context:
		return refusal(int(v.Context), api.ErrDimseContext)
	case v.Command && awaited:
		return refusal(0, api.ErrDimseKind)
	case !v.Command && !awaited:
		return refusal(1, api.ErrDimseKind)
	case len(v.Data) > most-len(j.begun.bytes):
		return refusal(most, api.ErrDimseLong)
	}
	return nil
}

// hold begins a message, if none is begun: also with a fragment that has no bytes.
func (j *Joiner) hold(v api.Pdv) {
	if j.state == awaitsMessage {
		j.state, j.begun.context = awaitsCommand, v.Context
	}
	held := len(j.begun.bytes)
	j.begun.bytes = slices.Grow(j.begun.bytes, len(v.Data))[:held+len(v.Data)]
	copy(j.begun.bytes[held:], v.Data)
}

// endCommand reads the command, which is looked at ahead of its data, and tells whether none are to come.
func (j *Joiner) endCommand() (whole bool, err error) {
	c, err := DecodeCmd(j.begun.bytes)
	var f *api.Fault
	if errors.As(err, &f) {
		return false, f
	}
	if j.server && !isAsking(c) {
		return false, refusal(int(c.Field), api.ErrDimseSide)
	}
	j.state = awaitsData
	j.begun.command, j.begun.size, j.begun.bytes = c, len(j.begun.bytes), nil
	return !c.HasData, nil
}

// isAsking tells whether a server may be told a command.
func isAsking(c api.Cmd) bool {
	return !isAnswer(c.Field) && !(c.Field == api.CCancel && c.HasData)
}

// tell gives the message away, and begins anew.
func (j *Joiner) tell() api.Message {
	m := api.Message{Context: j.begun.context, Cmd: j.begun.command, Data: j.begun.bytes}
	j.state, j.begun = awaitsMessage, message{}
	return m
}
