package service_test

import (
	"slices"
	"testing"

	"modality/api"
)

// serves is the document's list of what is served.
var serves = map[string][]uint16{
	api.UIDVerify:   {api.CEcho},
	api.UIDWorklist: {api.CFind},
	api.UIDPerform:  {api.NSet, api.NCreate},
	api.UIDRetrieve: {api.NGet},
}

// TestServed: every command on every context, with and without a data set, with its class and with others.
func TestServed(t *testing.T) {
	v, _, _ := served(t, scheduled("A"))
	for _, c := range agreed() {
		for _, field := range slices.Concat(cFields, nFields) {
			for _, class := range []string{c.Class, "", "1.2.3", api.UIDVerify, api.UIDWorklist, api.UIDPerform, api.UIDRetrieve} {
				for _, hasData := range []bool{false, true} {
					m := ask(c.Id, field, 5)
					m.Cmd.Class, m.Cmd.HasData, m.Data, m.Cmd.Instance = class, hasData, []byte{1}, "1.9"
					wants(t, "P15.3", v.Take(m), answer(m, firstReason(c, m)))
				}
			}
		}
	}
}

// firstReason is by which of the first reasons such a request (with a data set that can't be read, and of no performed step) is refused.
func firstReason(c api.Context, m api.Message) uint16 {
	isN := slices.Contains(nFields, m.Cmd.Field)
	bare := m.Cmd.Field == api.CEcho || m.Cmd.Field == api.NGet
	switch {
	case m.Cmd.Class != c.Class && isN:
		return 0x118
	case m.Cmd.Class != c.Class:
		return 0x122
	case !slices.Contains(serves[c.Class], m.Cmd.Field):
		return 0x211
	case m.Cmd.HasData == bare:
		return 0x212
	case m.Cmd.Field == api.CEcho:
		return 0
	case m.Cmd.Field == api.NGet:
		return 0x112
	case isN:
		return 0x110
	}
	return 0xA900
}

// TestDataless: a request without a data set is one, whatever bytes come with it; one with a data set of no bytes has one.
func TestDataless(t *testing.T) {
	v, _, _ := served(t, scheduled("A"))
	m := find(1)
	m.Cmd.HasData = false
	wants(t, "P15.3: 3", v.Take(m), answer(m, 0x212))
	m = create(2, "1.9", plain("A"))
	m.Cmd.HasData = false
	wants(t, "P15.3: 3", v.Take(m), answer(m, 0x212))
	m = echo(3)
	m.Data = []byte{1}
	wants(t, "P15.4", v.Take(m), answer(m, 0))
	m = echo(4)
	m.Cmd.HasData = true
	wants(t, "P15.3: 3", v.Take(m), answer(m, 0x212))
	m = get(7, 5, "1.9")
	m.Cmd.HasData, m.Data = true, nil
	wants(t, "P15.3: 3", v.Take(m), answer(m, 0x212))
	m = ask(3, api.CFind, 6)
	m.Cmd.HasData = true
	wants(t, "P15.6: no keys", v.Take(m))
	empty := answer(m, 0xFF00)
	empty.Cmd.HasData = true
	wants(t, "P15.6: an answer without keys", v.Turn(), empty)
	wants(t, "P15.9", v.Turn(), answer(m, 0))
}

// TestUnread: a data set must be one of the context's syntax.
func TestUnread(t *testing.T) {
	v, s, _ := served(t, scheduled("A"))
	for _, field := range []uint16{api.CFind, api.NSet, api.NCreate} {
		status, contexts := uint16(0x110), []uint8{5, 11}
		if field == api.CFind {
			status, contexts = 0xA900, []uint8{9, 3}
		}
		for i, context := range contexts {
			m := asking(contexts[1-i], field, 1, "1.9", plain("A"))
			m.Context = context
			wants(t, "P15.3: 4: the other syntax", v.Take(m), answer(m, status))
			m = asking(context, field, 1, "1.9", plain("A"))
			for _, b := range [][]byte{{0}, {1, 2, 3}, m.Data[:len(m.Data)-1], append(slices.Clone(m.Data), 0), make([]byte, 8), make([]byte, api.MaxSet+2)} {
				m.Data = b
				wants(t, "P15.3: 4", v.Take(m), answer(m, status))
			}
		}
	}
	for _, m := range []api.Message{ask(17, api.CFind, 1), ask(19, api.NSet, 1), ask(19, api.NCreate, 1)} {
		m.Cmd.HasData = true
		status := uint16(0xA900)
		if m.Cmd.Field != api.CFind {
			status = 0x110
		}
		wants(t, "P15.3: 4: no syntax", v.Take(m), answer(m, status))
	}
	wants(t, "no syntax is needed", v.Take(ask(23, api.CEcho, 1)), answer(ask(23, api.CEcho, 1), 0))
	isIdle(t, "behind it", v)
	stateIs(t, "behind it", s, scheduled("A"))
}

// TestCharsetRefused: a character set that is none, or text that is not of it, on any level.
func TestCharsetRefused(t *testing.T) {
	v, s, _ := served(t, scheduled("A"))
	for name, nodes := range map[string][]api.Node{
		"no term":        list(el(api.TagCharset, "ISO_IR 13"), el(api.TagPatientID, "7")),
		"not alone":      list(el(api.TagCharset, `ISO_IR 100\ISO 2022 IR 101`)),
		"no text of it":  list(el(api.TagCharset, "ISO_IR 192"), el(api.TagPatientName, "M\xFCller")),
		"none was named": list(el(api.TagPatientName, "M\xFCller")),
		"in an item":     list(el(api.TagCharset, "ISO_IR 100"), el(api.TagPatientName, "M\xFCller"), seq(api.TagSteps, holding(el(api.TagCharset, "X")))),
		"text in an item": list(el(api.TagCharset, "ISO_IR 100"), el(api.TagPatientName, "M\xFCller"),
			seq(api.TagSteps, holding(el(api.TagCharset, ""), el(api.TagPerformer, "M\xFCller")))),
	} {
		for _, context := range []uint8{3, 9} {
			m := asking(context, api.CFind, 1, "", nodes)
			wants(t, "P15.3: 4: "+name, v.Take(m), answer(m, 0xA900, api.TagCharset))
		}
		for _, context := range []uint8{5, 11} {
			for _, field := range []uint16{api.NCreate, api.NSet} {
				m := asking(context, field, 1, "1.9", nodes)
				wants(t, "P15.3: 4: "+name, v.Take(m), answer(m, 0x110, api.TagCharset))
			}
		}
	}
	isIdle(t, "behind it", v)
	stateIs(t, "behind it", s, scheduled("A"))
}

// TestBegunLate: of a request that waits nothing is looked at ahead of its time.
func TestBegunLate(t *testing.T) {
	v, _, _ := served(t, scheduled("A"))
	first := find(1)
	v.Take(first)
	late := []api.Message{ask(1, api.CEcho, 2), ask(1, api.CStore, 3), ask(3, api.CFind, 4), findBy(3, 5, el(api.TagCharset, "X")), find(6), set(7, "1.9", nil)}
	late[0].Cmd.Class = "1.2"
	late[4].Data = []byte{1}
	for _, m := range late {
		wants(t, "P15.2: 6", v.Take(m))
	}
	wants(t, "a turn", v.Turn(), match(first, "A", "Doe^Jane"))
	wants(t, "P15.8", v.Turn(), answer(first, 0), answer(late[0], 0x122), answer(late[1], 0x211), answer(late[2], 0x212),
		answer(late[3], 0xA900, api.TagCharset), answer(late[4], 0xA900), answer(late[5], 0x112))
	isIdle(t, "behind it", v)
}
