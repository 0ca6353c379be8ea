package service_test

import (
	"errors"
	"slices"
	"strings"

	"modality/api"
	"modality/charset"
	"modality/dataset"
	"modality/dict"
	"modality/mpps"
	"modality/store"
	"modality/worklist"
)

// model is the document read another way: all that is not yet answered is one line of entries, of which the first alone may have been begun.
type model struct {
	store    *store.Store
	contexts []api.Context
	line     []*entry
	over     bool
}

// entry is a request; of one that was begun, what it has still to say, the final answer last.
type entry struct {
	m      api.Message
	marked bool
	begun  bool
	says   []api.Message
	sizes  []int
}

func (x *model) context(id uint8) (api.Context, bool) {
	i := slices.IndexFunc(x.contexts, func(c api.Context) bool { return c.Id == id })
	if i < 0 {
		return api.Context{}, false
	}
	return x.contexts[i], true
}

func (x *model) waiting() int {
	n := 0
	for _, e := range x.line {
		if !e.begun {
			n++
		}
	}
	return n
}

func (x *model) take(m api.Message) api.Doing {
	if x.over {
		return api.Doing{Off: true}
	}
	if _, ok := x.context(m.Context); !ok {
		return api.Doing{Abort: true}
	}
	if m.Cmd.Field == 0x0FFF {
		return x.cancel(m.Cmd.To)
	}
	isRequest := slices.Contains([]uint16{0x01, 0x10, 0x20, 0x21, 0x30, 0x100, 0x110, 0x120, 0x130, 0x140, 0x150}, m.Cmd.Field)
	if !isRequest || x.waiting() == 8 {
		return api.Doing{Abort: true}
	}
	for _, e := range x.line {
		if e.m.Cmd.Id == m.Cmd.Id {
			return api.Doing{Send: []api.Message{answer(m, 0x0210)}}
		}
	}
	m.Data = slices.Clone(m.Data)
	x.line = append(x.line, &entry{m: m})
	return x.goOn(nil)
}

func (x *model) cancel(id uint16) api.Doing {
	for i, e := range x.line {
		switch {
		case e.m.Cmd.Id != id, e.m.Cmd.Field != 0x0020:
		case e.begun:
			x.line = slices.Delete(x.line, i, i+1)
			return x.goOn([]api.Message{answer(e.m, 0xFE00)})
		default:
			e.marked = true
		}
	}
	return api.Doing{}
}

// goOn begins entries, as long as the first was not begun.
func (x *model) goOn(said []api.Message) api.Doing {
	for len(x.line) > 0 && !x.line[0].begun {
		e := x.line[0]
		e.begun = true
		if off := x.begin(e); off {
			*x = model{store: x.store, contexts: x.contexts, over: true}
			return api.Doing{Send: said, Off: true}
		}
		if len(e.sizes) > 0 {
			break
		}
		said = append(said, e.says...)
		x.line = x.line[1:]
	}
	return api.Doing{Send: said}
}

func (x *model) turn() api.Doing {
	if x.over {
		return api.Doing{Off: true}
	}
	if len(x.line) == 0 {
		return api.Doing{}
	}
	e := x.line[0]
	said := e.says[:1:1]
	e.says, e.sizes = e.says[1:], e.sizes[1:]
	if len(e.says) == 0 {
		x.line = x.line[1:]
		return x.goOn(said)
	}
	return api.Doing{Send: said}
}

func (x *model) looks() looks {
	var l looks
	for _, e := range x.line {
		if e.begun {
			l.Running = true
			l.Owed += len(e.says)
			for _, n := range e.sizes {
				l.Held += n
			}
			continue
		}
		l.Queue++
		l.Held += 4096 + len(e.m.Data)
		if e.m.Cmd.Field == 0x0020 && !e.marked {
			l.Owed += 257
		}
	}
	if l.Queue > 0 {
		l.Owed++
	}
	return l
}

// begin sets what an entry says. One that runs has a size for each answer, 0 for the final one.
func (x *model) begin(e *entry) (off bool) {
	m := e.m
	c, _ := x.context(m.Context)
	say := func(status uint16, offending ...api.Tag) bool {
		e.says = []api.Message{answer(m, status, offending...)}
		return false
	}
	name := map[uint16]string{0x30: "C-ECHO", 0x20: "C-FIND", 0x120: "N-SET", 0x140: "N-CREATE", 0x110: "N-GET"}[m.Cmd.Field]
	serves := map[string]string{api.UIDVerify: "C-ECHO", api.UIDWorklist: "C-FIND", api.UIDPerform: "N-SET N-CREATE", api.UIDRetrieve: "N-GET"}[c.Class]
	is := func(names string) bool {
		return slices.Contains(strings.Fields(names), name)
	}
	unread := uint16(0x0110)
	if m.Cmd.Field < 0x100 {
		unread = 0xA900
	}
	switch {
	case e.marked:
		return say(0xFE00)
	case c.Class != m.Cmd.Class && m.Cmd.Field < 0x100:
		return say(0x0122)
	case c.Class != m.Cmd.Class:
		return say(0x0118)
	case !is(serves):
		return say(0x0211)
	case is("C-ECHO N-GET") && m.Cmd.HasData, !is("C-ECHO N-GET") && !m.Cmd.HasData:
		return say(0x0212)
	case is("C-ECHO"):
		return say(0)
	case is("N-GET"):
		return x.get(e, c)
	}
	raw, err := dataset.Decode(m.Data, c.Syntax)
	if err != nil {
		return say(unread)
	}
	keys, err := charset.Unify(raw)
	if err != nil {
		return say(unread, api.TagCharset)
	}
	if is("C-FIND") {
		return x.find(e, c, raw, keys)
	}
	return x.change(e, keys)
}

func byVerdict(m api.Message, v api.Verdict) api.Message {
	a := answer(m, v.Status, v.Offending...)
	a.Cmd.ErrorId = v.ErrorId
	return a
}

func (x *model) get(e *entry, c api.Context) bool {
	v := mpps.Get(x.store.State(), e.m.Cmd.Instance, e.m.Cmd.Attrs)
	e.says = []api.Message{byVerdict(e.m, v)}
	if v.Status == 0 {
		e.says[0] = expressed(e.says[0], v.Data, "", c.Syntax)
	}
	return false
}

func expressed(a api.Message, nodes []api.Node, set string, s api.Syntax) api.Message {
	a.Cmd.HasData = true
	if nodes, err := charset.Express(nodes, set); err == nil {
		if b, err := dataset.Encode(nodes, s); err == nil {
			a.Data = b
		}
	}
	return a
}

func (x *model) change(e *entry, nodes []api.Node) (off bool) {
	call := mpps.Create
	if e.m.Cmd.Field == 0x0120 {
		call = mpps.Set
	}
	v := call(x.store.State(), e.m.Cmd.Instance, nodes)
	e.says = []api.Message{byVerdict(e.m, v)}
	if v.Change.Kind == 0 {
		return false
	}
	err := x.store.Put(v.Change)
	if err != nil {
		e.says = []api.Message{answer(e.m, 0x0110)}
	}
	return errors.Is(err, api.ErrStoreOff)
}

func (x *model) find(e *entry, c api.Context, raw, keys []api.Node) bool {
	var seen []api.Step
	for _, s := range x.store.Steps() {
		if s.Status == 1 || s.Status == 2 {
			seen = append(seen, s)
		}
	}
	answers, warned, status, offending := worklist.Find(seen, keys)
	sum, pending := 0, uint16(0xFF00)
	if warned {
		pending = 0xFF01
	}
	set, _ := dict.Value(raw, api.TagCharset)
	for _, nodes := range answers {
		if len(nodes) > 4095 {
			status = 0xA700
			break
		}
		e.says = append(e.says, expressed(answer(e.m, pending), nodes, set, c.Syntax))
		e.sizes = append(e.sizes, sizeIn(nodes))
		sum += sizeIn(nodes)
	}
	if sum > 1048576 {
		status = 0xA700
	}
	if status != 0 {
		e.says, e.sizes = []api.Message{answer(e.m, status, offending...)}, nil
		return false
	}
	e.says, e.sizes = append(e.says, answer(e.m, 0)), append(e.sizes, 0)
	return false
}
