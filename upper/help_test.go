package upper_test

import (
	"fmt"
	"math"
	"reflect"
	"testing"

	"modality/api"
	"modality/upper"
)

// is tells whether an error is this layer's fault with this number at this place; OK: no error.
func is(err error, code api.Errno, at int) bool {
	if code == api.OK {
		return err == nil
	}
	f, ok := err.(*api.Fault)
	return ok && f != nil && f.Layer == "upper" && f.At == at && f.Err == error(code)
}

// whole is a PDU of any kind that has something in every field, whether its kind uses it or not; a salt tells it from others.
func whole(kind, salt int) api.Pdu {
	n := uint8(salt)
	name := fmt.Sprint("N", salt)
	return api.Pdu{Kind: kind, Result: n + 1, Source: n, Reason: n + 2, Assoc: api.Associate{
		Version: 1, Called: "A" + name, Calling: "B" + name, App: "1." + name,
		Contexts: []api.PresContext{{Id: n, Result: 1, Class: "1.2", Syntaxes: []string{"1.3", name}}, {Id: n + 2}},
		User: api.UserInfo{
			HasMax: true, MaxLength: 77, Class: "1.9", Name: name, HasOps: true, Invoked: 5, Performed: 6,
			Roles:  []api.Role{{Class: "1.2", Scu: 1}, {Class: name, Scp: 1}},
			Others: []api.UserItem{{Type: 0x58, Data: []byte{n, 9}}, {Type: 0x59}},
		}},
		Values: []api.Pdv{{Context: 1, Command: true, Data: []byte{n, 1, 2}}, {Context: 3, Last: true}, {Context: n, Data: []byte(name)}},
	}
}

// kindOf is the kind of PDU that an event needs, by the words of P9.5; 0: none.
func kindOf(event int) int {
	switch event {
	case 1, 6:
		return api.PduRQ
	case 3, 7:
		return api.PduAC
	case 4, 8:
		return api.PduRJ
	case 9, 10:
		return api.PduData
	case 12:
		return api.PduReleaseRQ
	case 13:
		return api.PduReleaseRP
	case 16:
		return api.PduAbort
	}
	return 0
}

// good is an event of a kind with the PDU that it needs, and nothing else.
func good(kind int) api.UpperEvent {
	return api.UpperEvent{Kind: kind, Pdu: api.Pdu{Kind: kindOf(kind)}}
}

// bad is an A-ASSOCIATE-RQ that this side can't take.
func bad() api.UpperEvent {
	e := good(api.EvRqPdu)
	e.Bad, e.Answer = true, api.Pdu{Kind: api.PduRJ, Result: 1, Source: 2, Reason: 2}
	return e
}

func begin(t testing.TB, artim int) *upper.Provider {
	t.Helper()
	p, err := upper.New(artim)
	if err != nil || p == nil {
		t.Fatalf("P9.4: New(%d): %v, %v", artim, p, err)
	}
	return p
}

// place is a state, and on which side.
type place struct {
	sta   int
	asked bool
}

// ways is how each place can be come to: the events that lead there.
func ways() map[place][]int {
	return map[place][]int{
		{1, false}:  {},
		{2, false}:  {5},
		{3, false}:  {5, 6},
		{4, true}:   {1},
		{5, true}:   {1, 2},
		{6, true}:   {1, 2, 3},
		{6, false}:  {5, 6, 7},
		{7, true}:   {1, 2, 3, 11},
		{7, false}:  {5, 6, 7, 11},
		{8, true}:   {1, 2, 3, 12},
		{8, false}:  {5, 6, 7, 12},
		{9, true}:   {1, 2, 3, 11, 12},
		{10, false}: {5, 6, 7, 11, 12},
		{11, true}:  {1, 2, 3, 11, 12, 14},
		{12, false}: {5, 6, 7, 11, 12, 13},
		{13, true}:  {1, 2, 15},
		{13, false}: {5, 6, 8},
	}
}

// reach is a new provider that was led to a place.
func reach(t testing.TB, artim int, to place) *upper.Provider {
	t.Helper()
	p := begin(t, artim)
	for _, kind := range ways()[to] {
		p.Do(good(kind))
	}
	if s := p.State(); s.Sta != to.sta || s.Asked != to.asked {
		t.Fatalf("P9.5: %v leads to %+v, not to %+v", ways()[to], s, to)
	}
	return p
}

// clone is a PDU of its own memory, in which lists without elements are nil.
func clone(p api.Pdu) api.Pdu {
	p.Assoc.Contexts = append([]api.PresContext(nil), p.Assoc.Contexts...)
	for i := range p.Assoc.Contexts {
		p.Assoc.Contexts[i].Syntaxes = append([]string(nil), p.Assoc.Contexts[i].Syntaxes...)
	}
	u := &p.Assoc.User
	u.Roles = append([]api.Role(nil), u.Roles...)
	u.Others = append([]api.UserItem(nil), u.Others...)
	for i := range u.Others {
		u.Others[i].Data = append([]byte(nil), u.Others[i].Data...)
	}
	p.Values = append([]api.Pdv(nil), p.Values...)
	for i := range p.Values {
		p.Values[i].Data = append([]byte(nil), p.Values[i].Data...)
	}
	return p
}

// same tells whether two things are wholly the same, nil and empty lists apart.
func same(x, y any) bool { return reflect.DeepEqual(x, y) }

// shown tells the beginning of anything.
func shown(x any) string { return fmt.Sprintf("%.700s", fmt.Sprintf("%+v", x)) }

func connectAct() api.UpperAct { return api.UpperAct{Kind: api.UpConnect} }

func answerAct() api.UpperAct { return api.UpperAct{Kind: api.UpAnswer} }

func shutAct() api.UpperAct { return api.UpperAct{Kind: api.UpShut} }

func sendAct(p api.Pdu) api.UpperAct { return api.UpperAct{Kind: api.UpSend, Pdu: p} }

func tellAct(word int) api.UpperAct { return api.UpperAct{Kind: api.UpTell, Word: word} }

func tellPduAct(word int, p api.Pdu) api.UpperAct {
	return api.UpperAct{Kind: api.UpTell, Word: word, Pdu: p}
}

func abortPdu(source, reason uint8) api.Pdu {
	return api.Pdu{Kind: api.PduAbort, Source: source, Reason: reason}
}

// wantDone fails if an event does not do just this, or if the provider is then another than it must be.
func wantDone(t *testing.T, p *upper.Provider, e api.UpperEvent, state api.UpperState, acts ...api.UpperAct) {
	t.Helper()
	before := p.State()
	got := p.Do(e)
	if len(acts) == 0 {
		acts = nil
	}
	if !same(got, acts) {
		t.Errorf("P9.5: %+v, %s: does %s; want %s", before, shown(e), shown(got), shown(acts))
	}
	if s := p.State(); s != state {
		t.Errorf("P9.6: %+v, %s: is then %+v; want %+v", before, shown(e), s, state)
	}
}

// far is numbers that are none of anything.
func far() []int {
	return []int{math.MinInt, math.MinInt + 1, math.MinInt32, -256, -20, -2, -1, 21, 22, 29, 30, 31, 32, 64, 255, 256, 257, 258, 269, 270, 271, 1 << 16, 1<<16 + 1, 1<<32 + 1, 1<<32 + 6, math.MaxInt - 1, math.MaxInt}
}
