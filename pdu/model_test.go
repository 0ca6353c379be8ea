package pdu_test

import (
	"bytes"
	"encoding/binary"
	"fmt"
	"slices"
	"strings"

	"modality/api"
)

// rule is a reason for which Encode refuses, and whether it holds for a PDU.
type rule struct {
	code  api.Errno
	at    int
	holds bool
}

// modelEncode goes through all rules in their order; if none holds, it puts the bytes together.
func modelEncode(p api.Pdu) ([]byte, api.Errno, int) {
	rules := []rule{{api.ErrPduKind, 0, !slices.Contains([]int{1, 2, 3, 4, 5, 6, 7}, p.Kind)}}
	rules = append(rules, unusedRules(p)...)
	if p.Kind == api.PduRQ || p.Kind == api.PduAC {
		rules = append(rules, associateRules(p)...)
	}
	if p.Kind == api.PduData {
		rules = append(rules, rule{api.ErrPduItem, 5, len(p.Values) == 0})
		for _, v := range p.Values {
			rules = append(rules, rule{api.ErrPduContext, 5, v.Context&1 == 0})
		}
	}
	for _, r := range rules {
		if r.holds {
			return nil, r.code, r.at
		}
	}
	body := modelBody(p)
	most := map[int]int{1: 32768, 2: 32768, 4: 16384}[p.Kind]
	if most > 0 && len(body) > most {
		return nil, api.ErrPduLong, 0
	}
	return unit(byte(p.Kind), body), api.OK, 0
}

func unusedRules(p api.Pdu) []rule {
	used := [8][]int{1: {1}, 2: {1}, 3: {2, 3, 4}, 4: {5}, 7: {3, 4}}
	var rules []rule
	for i, told := range []bool{!same(clone(api.Pdu{Assoc: p.Assoc}), api.Pdu{}), p.Result > 0, p.Source > 0, p.Reason > 0, len(p.Values) > 0} {
		if p.Kind >= 1 && p.Kind <= 7 && !slices.Contains(used[p.Kind], i+1) {
			rules = append(rules, rule{api.ErrPduField, i + 1, told})
		}
	}
	return rules
}

func associateRules(p api.Pdu) []rule {
	a := p.Assoc
	rules := []rule{
		{api.ErrPduText, 10, !titles.MatchString(a.Called)},
		{api.ErrPduText, 10, !titles.MatchString(a.Calling)},
		{api.ErrPduText, 11, !uids.MatchString(a.App)},
		{api.ErrPduContext, 12, len(a.Contexts) < 1 || len(a.Contexts) > 128},
	}
	for i, c := range a.Contexts {
		before := func(o api.PresContext) bool { return o.Id == c.Id }
		rules = append(rules, rule{api.ErrPduContext, 20 + i, c.Id&1 == 0 || slices.ContainsFunc(a.Contexts[:i], before)})
		n := len(c.Syntaxes)
		if p.Kind == api.PduRQ {
			rules = append(rules, rule{api.ErrPduContext, 20 + i, c.Result != 0 || n == 0}, rule{api.ErrPduText, 20 + i, !uids.MatchString(c.Class)})
		} else {
			rules = append(rules, rule{api.ErrPduContext, 20 + i, c.Class != "" || c.Result > 4 || c.Result == 0 && n != 1 || c.Result != 0 && n != 0})
		}
		for _, s := range c.Syntaxes {
			rules = append(rules, rule{api.ErrPduText, 20 + i, !uids.MatchString(s)})
		}
	}
	return append(rules, userRules(a.User)...)
}

func userRules(u api.UserInfo) []rule {
	rules := []rule{{api.ErrPduField, 13, u.MaxLength != 0 && !u.HasMax}, {api.ErrPduField, 13, (u.Invoked != 0 || u.Performed != 0) && !u.HasOps}}
	for i, r := range u.Roles {
		for _, o := range u.Roles[:i] {
			rules = append(rules, rule{api.ErrPduField, 13, o.Class == r.Class})
		}
		rules = append(rules, rule{api.ErrPduField, 13, r.Scu > 1 || r.Scp > 1})
	}
	for _, o := range u.Others {
		rules = append(rules, rule{api.ErrPduField, 13, o.Type <= 0x55})
	}
	rules = append(rules, rule{api.ErrPduText, 13, u.Class != "" && !uids.MatchString(u.Class)}, rule{api.ErrPduText, 13, u.Name != "" && !names.MatchString(u.Name)})
	for _, r := range u.Roles {
		rules = append(rules, rule{api.ErrPduText, 13, !uids.MatchString(r.Class)})
	}
	return rules
}

// modelBody is the L bytes of a PDU that may be.
func modelBody(p api.Pdu) []byte {
	switch p.Kind {
	case api.PduData:
		var b []byte
		for _, v := range p.Values {
			bits := byte(0)
			if v.Command {
				bits++
			}
			if v.Last {
				bits += 2
			}
			b = append(b, sized(4, raw(v.Context, bits), v.Data)...)
		}
		return b
	case api.PduRQ, api.PduAC:
		a := p.Assoc
		b := append(binary.BigEndian.AppendUint16(nil, a.Version), titled(a.Called, a.Calling)[2:]...)
		b = append(b, item(0x10, text(a.App))...)
		for _, c := range a.Contexts {
			var inside []byte
			for _, s := range c.Syntaxes {
				inside = append(inside, item(0x40, text(s))...)
			}
			if p.Kind == api.PduRQ {
				b = append(b, item(0x20, raw(c.Id, 0, 0, 0), item(0x30, text(c.Class)), inside)...)
			} else {
				b = append(b, answered(c.Id, c.Result, inside)...)
			}
		}
		return append(b, item(0x50, modelUser(a.User))...)
	}
	return raw(0, p.Result, p.Source, p.Reason)
}

func modelUser(u api.UserInfo) (b []byte) {
	if u.HasMax {
		b = append(b, item(0x51, binary.BigEndian.AppendUint32(nil, u.MaxLength))...)
	}
	if len(u.Class) > 0 {
		b = append(b, item(0x52, text(u.Class))...)
	}
	if u.HasOps {
		b = append(b, item(0x53, raw(byte(u.Invoked>>8), byte(u.Invoked), byte(u.Performed>>8), byte(u.Performed)))...)
	}
	for _, r := range u.Roles {
		b = append(b, item(0x54, sized(2, text(r.Class)), raw(r.Scu, r.Scp))...)
	}
	if len(u.Name) > 0 {
		b = append(b, item(0x55, text(u.Name))...)
	}
	for _, o := range u.Others {
		b = append(b, item(o.Type, o.Data)...)
	}
	return b
}

// trouble is something that Decode refuses: where it is come upon when the bytes are read from the left, which of several there is told, and what is told.
type trouble struct {
	met, rank int
	code      api.Errno
	at        int
}

// The ranks of what is come upon at one place.
const (
	atEnd = iota // of the part that ends there
	ofLength
	ofTwice
	ofContext
	ofText
	ofRoles
	ofRole
	ofAll // what the PDU lacks
)

// modelDecode gathers all that is wrong, in any order, and tells what comes first.
func modelDecode(b []byte) (api.Pdu, api.Errno, int) {
	if len(b) < 6 {
		return api.Pdu{}, api.ErrPduShort, len(b)
	}
	if b[0] < 1 || b[0] > 7 {
		return api.Pdu{}, api.ErrPduKind, 0
	}
	length := binary.BigEndian.Uint32(b[2:])
	if most := [8]uint32{0, 32768, 32768, 4, 16384, 4, 4, 4}[b[0]]; length > most || most == 4 && length < 4 || uint64(len(b)) != 6+uint64(length) {
		return api.Pdu{}, api.ErrPduLength, 2
	}
	p := api.Pdu{Kind: int(b[0])}
	m := &modelReader{b: b, p: &p}
	switch p.Kind {
	case api.PduRQ, api.PduAC:
		m.associate()
	case api.PduData:
		m.values()
	case api.PduRJ:
		p.Result, p.Source, p.Reason = b[7], b[8], b[9]
	case api.PduAbort:
		p.Source, p.Reason = b[8], b[9]
	}
	if len(m.all) == 0 {
		return p, api.OK, 0
	}
	first := slices.MinFunc(m.all, func(x, y trouble) int { return slices.Compare([]int{x.met, x.rank}, []int{y.met, y.rank}) })
	return api.Pdu{}, first.code, first.at
}

type modelReader struct {
	b   []byte
	p   *api.Pdu
	all []trouble
}

// note adds a trouble, if there is one.
func (m *modelReader) note(wrong bool, met, rank int, code api.Errno, at int) {
	if wrong {
		m.all = append(m.all, trouble{met, rank, code, at})
	}
}

func (m *modelReader) values() {
	m.note(len(m.b) == 6, 6, ofLength, api.ErrPduItem, 6)
	for at := 6; at < len(m.b); {
		rest := bytes.NewReader(m.b[at:])
		var n uint32
		err := binary.Read(rest, binary.BigEndian, &n)
		wrong := err != nil || n < 2 || int64(n) > int64(rest.Len())
		m.note(wrong, at, ofLength, api.ErrPduLength, at)
		if wrong {
			return
		}
		v := m.b[at+4 : at+4+int(n)]
		m.note(v[0]%2 == 0, at, ofContext, api.ErrPduContext, at)
		m.p.Values = append(m.p.Values, api.Pdv{Context: v[0], Command: v[1]%2 == 1, Last: v[1]/2%2 == 1, Data: append([]byte(nil), v[2:]...)})
		at += 4 + int(n)
	}
}

// modelItem is an item that is cut out.
type modelItem struct {
	kind      byte
	at, inner int
	body      []byte
}

// cut cuts bytes into items as far as that goes.
func (m *modelReader) cut(from, end int) (items []modelItem) {
	for from < end {
		if end-from < 4 || end-from-4 < int(m.b[from+2])*256+int(m.b[from+3]) {
			m.note(true, from, ofLength, api.ErrPduLength, from)
			return items
		}
		i := modelItem{m.b[from], from, from + 4, m.b[from+4 : from+4+int(m.b[from+2])*256+int(m.b[from+3])]}
		items = append(items, i)
		from = i.inner + len(i.body)
	}
	return items
}

// of tells the items of a type, and notes the second ones, if only one may be there.
func (m *modelReader) of(items []modelItem, kind byte, once bool) (list []modelItem) {
	for _, i := range items {
		if i.kind == kind {
			m.note(once && len(list) > 0, i.at, ofTwice, api.ErrPduItem, i.at)
			list = append(list, i)
		}
	}
	return list
}

func (m *modelReader) uid(i modelItem, at int, b []byte) string {
	s := strings.TrimRight(string(b), "\x00")
	m.note(!uids.MatchString(s), i.at, ofText, api.ErrPduText, at)
	return s
}

func (m *modelReader) associate() {
	a := &m.p.Assoc
	if len(m.b) < 74 {
		m.note(true, 0, ofLength, api.ErrPduLength, 2)
		return
	}
	a.Version = binary.BigEndian.Uint16(m.b[6:])
	a.Called, a.Calling = strings.Trim(string(m.b[10:26]), " "), strings.Trim(string(m.b[26:42]), " ")
	m.note(!titles.MatchString(a.Called), 10, ofText, api.ErrPduText, 10)
	m.note(!titles.MatchString(a.Calling), 26, ofText, api.ErrPduText, 26)
	items := m.cut(74, len(m.b))
	apps, users := m.of(items, 0x10, true), m.of(items, 0x50, true)
	contexts := m.of(items, []byte{1: 0x20, 2: 0x21}[m.p.Kind], false)
	m.note(len(apps) == 0 || len(users) == 0 || len(contexts) == 0, len(m.b), ofAll, api.ErrPduItem, len(m.b))
	for _, i := range apps {
		a.App = m.uid(i, i.inner, i.body)
	}
	ids := map[byte]bool{}
	for _, i := range contexts {
		m.context(i, ids)
	}
	for _, i := range users {
		m.user(m.cut(i.inner, i.inner+len(i.body)))
	}
}

func (m *modelReader) context(i modelItem, ids map[byte]bool) {
	if len(i.body) < 4 {
		m.note(true, i.at, ofLength, api.ErrPduLength, i.at)
		return
	}
	c := api.PresContext{Id: i.body[0]}
	m.note(c.Id%2 == 0 || ids[c.Id], i.at, ofContext, api.ErrPduContext, i.at)
	ids[c.Id] = true
	end := i.inner + len(i.body)
	items := m.cut(i.inner+4, end)
	syntaxes := m.of(items, 0x40, i.kind == 0x21)
	if i.kind == 0x21 {
		c.Result = i.body[2]
		m.note(c.Result > 4, i.at, ofContext, api.ErrPduContext, i.at)
		m.note(c.Result == 0 && len(syntaxes) == 0, end, atEnd, api.ErrPduItem, i.at)
	} else {
		classes := m.of(items, 0x30, true)
		m.note(len(classes) == 0 || len(syntaxes) == 0, end, atEnd, api.ErrPduItem, i.at)
		for _, j := range classes {
			c.Class = m.uid(j, j.inner, j.body)
		}
	}
	for _, j := range syntaxes {
		if s := m.uid(j, j.inner, j.body); c.Result == 0 {
			c.Syntaxes = append(c.Syntaxes, s)
		}
	}
	m.p.Assoc.Contexts = append(m.p.Assoc.Contexts, c)
}

func (m *modelReader) user(items []modelItem) {
	u := &m.p.Assoc.User
	for _, i := range m.of(items, 0x51, true) {
		if m.four(i) {
			u.HasMax, u.MaxLength = true, binary.BigEndian.Uint32(i.body)
		}
	}
	for _, i := range m.of(items, 0x52, true) {
		u.Class = m.uid(i, i.inner, i.body)
	}
	for _, i := range m.of(items, 0x53, true) {
		if m.four(i) {
			u.HasOps, u.Invoked, u.Performed = true, binary.BigEndian.Uint16(i.body), binary.BigEndian.Uint16(i.body[2:])
		}
	}
	for _, i := range m.of(items, 0x54, false) {
		m.role(i)
	}
	for _, i := range m.of(items, 0x55, true) {
		u.Name = string(i.body)
		m.note(!names.MatchString(u.Name), i.at, ofText, api.ErrPduText, i.inner)
	}
	for _, i := range items {
		if i.kind > 0x55 {
			u.Others = append(u.Others, api.UserItem{Type: i.kind, Data: append([]byte(nil), i.body...)})
		}
	}
}

func (m *modelReader) four(i modelItem) bool {
	m.note(len(i.body) != 4, i.at, ofLength, api.ErrPduLength, i.at)
	return len(i.body) == 4
}

func (m *modelReader) role(i modelItem) {
	n := len(i.body)
	if n < 4 || fmt.Sprintf("%x", i.body[:2]) != fmt.Sprintf("%04x", n-4) {
		m.note(true, i.at, ofLength, api.ErrPduLength, i.at)
		return
	}
	r := api.Role{Class: m.uid(i, i.inner+2, i.body[2:n-2]), Scu: i.body[n-2], Scp: i.body[n-1]}
	m.note(r.Scu > 1 || r.Scp > 1, i.at, ofRoles, api.ErrPduItem, i.at)
	u := &m.p.Assoc.User
	m.note(slices.ContainsFunc(u.Roles, func(o api.Role) bool { return o.Class == r.Class }), i.at, ofRole, api.ErrPduItem, i.at)
	u.Roles = append(u.Roles, r)
}
