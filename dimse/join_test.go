package dimse_test

import (
	"math/rand"
	"slices"
	"testing"

	"modality/api"
	"modality/dimse"
)

// command is a fragment of a command.
func command(context uint8, last bool, data []byte) api.Pdv {
	return api.Pdv{Context: context, Command: true, Last: last, Data: data}
}

// data is a fragment of data.
func data(context uint8, last bool, b []byte) api.Pdv {
	return api.Pdv{Context: context, Last: last, Data: b}
}

// oneAndThree gives a joiner of the contexts 1 and 3.
func oneAndThree(server bool) *dimse.Joiner {
	return dimse.NewJoiner([]api.Context{{Id: 1, Class: "1.2", Syntax: api.Implicit}, {Id: 3}}, server)
}

// wantTaken fails if a fragment is not taken without a message, or if another number of bytes is held then.
func wantTaken(t *testing.T, j *dimse.Joiner, v api.Pdv, held int) {
	t.Helper()
	if m, whole, err := j.Take(v); whole || err != nil || !same(m, api.Message{}) || j.Held() != held {
		t.Fatalf("P10.5, P10.6: %s: %s, %v, %v, %d held; want nothing, and %d held", shown(v), shown(m), whole, err, j.Held(), held)
	}
}

// wantTold fails if a fragment does not complete a message.
func wantTold(t *testing.T, j *dimse.Joiner, v api.Pdv, want api.Message) {
	t.Helper()
	if m, whole, err := j.Take(v); !whole || err != nil || !same(m, want) || j.Held() != 0 {
		t.Fatalf("P10.5, P10.6: %s: %s, %v, %v, %d held; want %s", shown(v), shown(m), whole, err, j.Held(), shown(want))
	}
}

// wantStopped fails if a fragment is not refused, or if the joiner takes anything behind that.
func wantStopped(t *testing.T, j *dimse.Joiner, v api.Pdv, code api.Errno, at int) {
	t.Helper()
	wantRefused(t, j, v, code, at)
	whole, _ := dimse.EncodeCmd(echo())
	for _, v := range []api.Pdv{v, command(1, true, whole), command(77, false, nil), data(1, true, nil), {}} {
		wantRefused(t, j, v, api.ErrDimseOver, 0)
	}
}

func wantRefused(t *testing.T, j *dimse.Joiner, v api.Pdv, code api.Errno, at int) {
	t.Helper()
	if m, whole, err := j.Take(v); whole || !same(m, api.Message{}) || !is(err, code, at) || j.Held() != 0 {
		t.Fatalf("P10.5, P10.6: %s: %s, %v, %v, %d held; want %d at %d", shown(v), shown(m), whole, err, j.Held(), code, at)
	}
}

// TestJoinTalk: messages in pieces of every kind, one behind the other.
func TestJoinTalk(t *testing.T) {
	for _, server := range []bool{true, false} {
		j := oneAndThree(server)
		if j.Held() != 0 {
			t.Errorf("P10.6: a new joiner holds %d bytes", j.Held())
		}
		e, f := mustEncode(t, echo()), mustEncode(t, find())
		wantTold(t, j, command(1, true, e), api.Message{Context: 1, Cmd: echo()})
		wantTaken(t, j, command(3, false, nil), 0)
		wantTaken(t, j, command(3, false, e[:1]), 1)
		wantTaken(t, j, command(3, false, []byte{}), 1)
		wantTaken(t, j, command(3, false, e[1:]), len(e))
		wantTold(t, j, command(3, true, nil), api.Message{Context: 3, Cmd: echo()})
		wantTaken(t, j, command(1, true, f), len(f))
		wantTold(t, j, data(1, true, []byte("abc")), api.Message{Context: 1, Cmd: find(), Data: []byte("abc")})
		wantTaken(t, j, command(1, false, f[:30]), 30)
		wantTaken(t, j, command(1, true, f[30:]), len(f))
		wantTaken(t, j, data(1, false, nil), len(f))
		wantTaken(t, j, data(1, false, []byte("ab")), len(f)+2)
		wantTaken(t, j, data(1, false, []byte("cde")), len(f)+5)
		wantTold(t, j, data(1, true, nil), api.Message{Context: 1, Cmd: find(), Data: []byte("abcde")})
		wantTaken(t, j, command(3, true, f), len(f))
		wantTold(t, j, data(3, true, nil), api.Message{Context: 3, Cmd: find()})
		wantTaken(t, j, command(3, true, f), len(f))
		wantTaken(t, j, data(3, false, []byte{}), len(f))
		wantTold(t, j, data(3, true, []byte{}), api.Message{Context: 3, Cmd: find()})
		wantTold(t, j, command(1, true, mustEncode(t, cancel(false))), api.Message{Context: 1, Cmd: cancel(false)})
	}
}

// TestHeldAsCame: the command's bytes are counted as they came, not as they would be laid down.
func TestHeldAsCame(t *testing.T) {
	j := oneAndThree(true)
	b := grouped(append(mustEncode(t, find())[12:], lay(text(0x2000, "whatever"))...))
	wantTaken(t, j, command(1, true, b), len(b))
	wantTaken(t, j, data(1, false, raw(1)), len(b)+1)
	wantTold(t, j, data(1, true, raw(2)), api.Message{Context: 1, Cmd: find(), Data: raw(1, 2)})
}

// TestJoinExample: the document's fifth example.
func TestJoinExample(t *testing.T) {
	c := echo()
	c.HasData = true
	pdus, err := dimse.Cut(api.Message{Context: 3, Cmd: c, Data: numbered(130)}, 64)
	if err != nil {
		t.Fatal(err)
	}
	j := oneAndThree(true)
	wantTaken(t, j, pdus[0].Values[0], 58)
	wantStopped(t, j, command(1, false, nil), api.ErrDimseContext, 1)
}

// TestJoinRefusals: each reason in each state in which it may come, and of two the first.
func TestJoinRefusals(t *testing.T) {
	f, e, a, c := mustEncode(t, find()), mustEncode(t, echo()), mustEncode(t, answer()), mustEncode(t, cancel(true))
	begun := command(1, false, nil)
	half := command(1, false, f[:20])
	awaiting := command(1, true, f)
	some := data(1, false, raw(1, 2, 3))
	for n, x := range []struct {
		ahead  []api.Pdv
		v      api.Pdv
		server bool
		code   api.Errno
		at     int
	}{
		{nil, command(5, true, e), true, api.ErrDimseContext, 5},
		{nil, command(0, true, e), true, api.ErrDimseContext, 0},
		{nil, command(255, false, nil), false, api.ErrDimseContext, 255},
		{nil, data(2, false, make([]byte, 1<<20)), false, api.ErrDimseContext, 2},
		{[]api.Pdv{begun}, command(3, false, nil), true, api.ErrDimseContext, 3},
		{[]api.Pdv{half}, command(5, false, nil), true, api.ErrDimseContext, 5},
		{[]api.Pdv{half}, data(3, false, nil), true, api.ErrDimseContext, 3},
		{[]api.Pdv{awaiting}, data(3, true, raw(1)), true, api.ErrDimseContext, 3},
		{[]api.Pdv{awaiting}, command(3, true, e), true, api.ErrDimseContext, 3},
		{[]api.Pdv{awaiting, some}, data(5, true, make([]byte, 1<<20)), false, api.ErrDimseContext, 5},
		{[]api.Pdv{awaiting}, command(1, true, e), true, api.ErrDimseKind, 0},
		{[]api.Pdv{awaiting}, command(1, false, nil), false, api.ErrDimseKind, 0},
		{[]api.Pdv{awaiting, some}, command(1, true, make([]byte, 5000)), true, api.ErrDimseKind, 0},
		{nil, data(1, true, nil), true, api.ErrDimseKind, 1},
		{nil, data(1, false, make([]byte, 1<<20)), false, api.ErrDimseKind, 1},
		{[]api.Pdv{begun}, data(1, false, nil), true, api.ErrDimseKind, 1},
		{[]api.Pdv{half}, data(1, true, raw(1)), false, api.ErrDimseKind, 1},
		{[]api.Pdv{command(3, true, e)}, data(3, true, nil), true, api.ErrDimseKind, 1},
		{nil, command(1, false, make([]byte, 4097)), true, api.ErrDimseLong, 4096},
		{nil, command(1, true, make([]byte, 4097)), true, api.ErrDimseLong, 4096},
		{[]api.Pdv{half}, command(1, false, make([]byte, 4077)), true, api.ErrDimseLong, 4096},
		{[]api.Pdv{command(1, false, make([]byte, 4096)), begun}, command(1, false, raw(0)), false, api.ErrDimseLong, 4096},
		{[]api.Pdv{awaiting}, data(1, false, make([]byte, 65537)), true, api.ErrDimseLong, 65536},
		{[]api.Pdv{awaiting, some}, data(1, true, make([]byte, 65534)), false, api.ErrDimseLong, 65536},
		{[]api.Pdv{awaiting, data(1, false, make([]byte, 65536))}, data(1, true, raw(1)), true, api.ErrDimseLong, 65536},
		{nil, command(1, true, nil), true, api.ErrDimseGroup, 0},
		{nil, command(1, true, raw(1)), true, api.ErrDimseShort, 0},
		{[]api.Pdv{half}, command(1, true, nil), false, api.ErrDimseShort, 12},
		{[]api.Pdv{half}, command(1, true, f[20:24]), false, api.ErrDimseGroup, 0},
		{[]api.Pdv{half}, command(1, true, f[20:27]), false, api.ErrDimseShort, 24},
		{[]api.Pdv{command(1, false, f[:12])}, command(1, true, f[13:]), false, api.ErrDimseTag, 12},
		{nil, command(1, true, set(us(0x0100, 0x0031))), true, api.ErrDimseField, 0},
		{nil, command(1, true, set(us(0x0100, 0x0FFF), us(0x0800, 1))), true, api.ErrDimseMissing, 0x0120},
		{nil, command(1, true, set(us(0x0100, 0x8030), us(0x0120, 1), us(0x0800, 1))), true, api.ErrDimseMissing, 0x0900},
		{nil, command(1, true, set(us(0x0100, 0x0FFF), text(0x0120, ""), us(0x0800, 1))), false, api.ErrDimseValue, 0x0120},
		{nil, command(1, true, set(part{0x0100, raw(1)})), false, api.ErrDimseLength, 12},
		{nil, command(1, true, a), true, api.ErrDimseSide, 0x8120},
		{nil, command(3, true, mustEncode(t, api.Cmd{Field: 0x8030})), true, api.ErrDimseSide, 0x8030},
		{[]api.Pdv{command(3, false, a[:40])}, command(3, true, a[40:]), true, api.ErrDimseSide, 0x8120},
		{nil, command(1, true, c), true, api.ErrDimseSide, 0x0FFF},
	} {
		j := oneAndThree(x.server)
		for _, v := range x.ahead {
			if _, _, err := j.Take(v); err != nil {
				t.Fatalf("case %d: %v", n, err)
			}
		}
		wantStopped(t, j, x.v, x.code, x.at)
	}
}

// TestSides: which commands a server's joiner takes, and that the other side's takes all.
func TestSides(t *testing.T) {
	d := readDocument()
	for field, r := range d.rows {
		for _, hasData := range []bool{false, true} {
			c := api.Cmd{Field: field, HasData: hasData}
			if r.uses[1] == "M" {
				c.Class = "1"
			}
			if r.uses[2] == "M" {
				c.Instance = "1"
			}
			b := mustEncode(t, c)
			for _, server := range []bool{false, true} {
				j, v := oneAndThree(server), command(1, true, b)
				switch {
				case server && (field >= 0x8000 || field == 0x0FFF && hasData):
					wantStopped(t, j, v, api.ErrDimseSide, int(field))
				case hasData:
					wantTaken(t, j, v, len(b))
					wantTold(t, j, data(1, true, raw(9)), api.Message{Context: 1, Cmd: c, Data: raw(9)})
				default:
					wantTold(t, j, v, api.Message{Context: 1, Cmd: c})
				}
			}
		}
	}
}

// TestContexts: every number is taken if it stands in the list, and no other; numbers alone count, also if they stand twice.
func TestContexts(t *testing.T) {
	e := mustEncode(t, echo())
	lists := [][]api.Context{nil, {}, {{Id: 0}}, {{Id: 255, Class: "x", Syntax: 77}}, {{Id: 2}, {Id: 7}, {Id: 2, Class: "1"}}}
	var all []api.Context
	for n := range 256 {
		all = append(all, api.Context{Id: uint8(n)})
	}
	for _, list := range append(lists, all) {
		for n := range 256 {
			j := dimse.NewJoiner(list, n%2 == 0)
			v := command(uint8(n), true, e)
			if slices.ContainsFunc(list, func(c api.Context) bool { return int(c.Id) == n }) {
				wantTold(t, j, v, api.Message{Context: uint8(n), Cmd: echo()})
			} else {
				wantStopped(t, j, v, api.ErrDimseContext, n)
			}
		}
	}
}

// TestJoinLimits: commands of MaxCommand bytes and data of MaxData, in one piece and in many.
func TestJoinLimits(t *testing.T) {
	long := api.Cmd{Field: 0x0110, Class: "1.222", Instance: "1.3", Attrs: make([]api.Tag, 1005), HasData: true}
	b := mustEncode(t, long)
	bytes64 := numbered(api.MaxData)
	for _, size := range []int{1, 2, 333, 4095, 4096, 65535, 65536} {
		j := oneAndThree(true)
		for at := 0; at < len(b); at += size {
			end := min(len(b), at+size)
			wantTaken(t, j, command(1, end == len(b), b[at:end]), end)
		}
		for at := 0; at < len(bytes64)-size; at += size {
			wantTaken(t, j, data(1, false, bytes64[at:at+size]), len(b)+at+size)
		}
		left := j.Held() - len(b)
		wantTold(t, j, data(1, true, bytes64[left:]), api.Message{Context: 1, Cmd: long, Data: bytes64})
	}
}

// TestManyEmpty: fragments without bytes cost nothing that grows with what is held.
func TestManyEmpty(t *testing.T) {
	j, f := oneAndThree(true), mustEncode(t, find())
	wantTaken(t, j, command(1, true, f), len(f))
	wantTaken(t, j, data(1, false, numbered(65000)), len(f)+65000)
	for range 2000000 {
		if _, whole, err := j.Take(data(1, false, nil)); whole || err != nil {
			t.Fatal(err)
		}
	}
	wantTold(t, j, data(1, true, nil), api.Message{Context: 1, Cmd: find(), Data: numbered(65000)})
}

// TestNoJoiner: what NewJoiner did not give.
func TestNoJoiner(t *testing.T) {
	for _, j := range []*dimse.Joiner{nil, {}, new(dimse.Joiner)} {
		for _, v := range []api.Pdv{{}, command(1, true, echoed()), data(1, true, make([]byte, 1<<20))} {
			for range 2 {
				wantRefused(t, j, v, api.ErrZero, 0)
			}
		}
	}
}

// second is a second joiner: it keeps all fragments of a message, and looks at the whole list each time.
type second struct {
	d        *document
	contexts []uint8
	server   bool
	over     bool
	list     []api.Pdv
}

// joined is the bytes of the fragments of a part.
func joined(list []api.Pdv, command bool) (b []byte) {
	for _, v := range list {
		if v.Command == command {
			b = append(b, v.Data...)
		}
	}
	return b
}

// awaits tells whether a whole command awaits its data.
func (s *second) awaits() bool {
	return slices.ContainsFunc(s.list, func(v api.Pdv) bool { return v.Command && v.Last })
}

// reason tells why a fragment is refused, or that it is not.
func (s *second) reason(v api.Pdv) outcome {
	switch {
	case s.over:
		return refused(api.ErrDimseOver, 0)
	case !slices.Contains(s.contexts, v.Context), len(s.list) > 0 && s.list[0].Context != v.Context:
		return refused(api.ErrDimseContext, int(v.Context))
	case v.Command && s.awaits():
		return refused(api.ErrDimseKind, 0)
	case !v.Command && !s.awaits():
		return refused(api.ErrDimseKind, 1)
	}
	all := append(slices.Clone(s.list), v)
	if len(joined(all, true)) > 4096 {
		return refused(api.ErrDimseLong, 4096)
	}
	if len(joined(all, false)) > 65536 {
		return refused(api.ErrDimseLong, 65536)
	}
	if !v.Command || !v.Last {
		return outcome{}
	}
	o := s.d.decode(joined(all, true))
	if field := int(o.cmd.Field); o.code == api.OK && s.server && (field >= 0x8000 || field == 0x0FFF && o.cmd.HasData) {
		return refused(api.ErrDimseSide, field)
	}
	return o
}

// take tells what Take must tell, and what is held behind it.
func (s *second) take(v api.Pdv) (m api.Message, whole bool, o outcome, held int) {
	o = s.reason(v)
	if o.code != api.OK {
		s.over, s.list = true, nil
		return m, false, o, 0
	}
	s.list = append(s.list, v)
	if v.Last {
		c := s.d.decode(joined(s.list, true)).cmd
		if !v.Command || !c.HasData {
			m = api.Message{Context: v.Context, Cmd: c, Data: joined(s.list, false)}
			s.list = nil
			return m, true, outcome{}, 0
		}
	}
	return m, false, outcome{}, len(joined(s.list, true)) + len(joined(s.list, false))
}

// wantAsSecond fails if a joiner does not do what the second one does, fragment by fragment; it tells whether the last was refused.
func wantAsSecond(t *testing.T, d *document, server bool, list []api.Pdv) bool {
	t.Helper()
	j, s := oneAndThree(server), &second{d: d, contexts: []uint8{1, 3}, server: server}
	stopped := false
	for i, v := range list {
		m, whole, o, held := s.take(v)
		got, told, err := j.Take(v)
		if !same(got, m) || told != whole || !is(err, o.code, o.at) || j.Held() != held {
			t.Fatalf("P10.5, P10.6: fragment %d of %s: %s, %v, %v, %d held; want %s, %v, %d at %d, %d held", i, shown(list), shown(got), told, err, j.Held(), shown(m), whole, o.code, o.at, held)
		}
		stopped = err != nil
	}
	return stopped
}

// alphabet is fragments of which walks are made.
func alphabet(t *testing.T) (list []api.Pdv) {
	f, e := mustEncode(t, find()), mustEncode(t, echo())
	pieces := [][]byte{nil, f, f[:13], f[13:], e, mustEncode(t, cancel(true)), mustEncode(t, api.Cmd{Field: 0x8020, To: 8})}
	for _, b := range pieces {
		for _, last := range []bool{false, true} {
			list = append(list, command(1, last, b), command(3, last, b))
		}
	}
	for _, last := range []bool{false, true} {
		list = append(list, data(1, last, nil), data(1, last, raw(1, 2)), data(3, last, raw(3)), command(5, last, e), data(5, last, nil))
	}
	return list
}

// TestAllWalks: all walks of up to four fragments that are not refused ahead of their last, against the second joiner.
func TestAllWalks(t *testing.T) {
	d, letters := readDocument(), alphabet(t)
	walks := 0
	var walk func(server bool, list []api.Pdv)
	walk = func(server bool, list []api.Pdv) {
		walks++
		if wantAsSecond(t, d, server, list) || len(list) == 4 {
			return
		}
		for _, v := range letters {
			walk(server, append(slices.Clone(list), v))
		}
	}
	walk(true, nil)
	walk(false, nil)
	if walks < 10000 {
		t.Errorf("the test has %d walks", walks)
	}
}

// TestLongWalks: messages at random in fragments at random, sometimes with one that is spoilt, against the second joiner.
func TestLongWalks(t *testing.T) {
	d, r := readDocument(), rand.New(rand.NewSource(104))
	stops := 0
	for n := range 3000 {
		var list []api.Pdv
		for range 1 + r.Intn(6) {
			list = append(list, someFragments(r, d)...)
		}
		if n%2 == 0 {
			spoilFragment(r, &list[r.Intn(len(list))])
		}
		if wantAsSecond(t, d, r.Intn(2) == 0, list) {
			stops++
		}
	}
	if stops < 500 || stops > 2900 {
		t.Errorf("%d of the test's walks are refused", stops)
	}
}

// someFragments gives a message at random, cut anywhere.
func someFragments(r *rand.Rand, d *document) (list []api.Pdv) {
	c := someCmd(r, d)
	context := uint8(1 + 2*r.Intn(2))
	if r.Intn(4) > 0 {
		c = []api.Cmd{echo(), find()}[r.Intn(2)]
	}
	cut := func(isCommand bool, b []byte) {
		for {
			n := min(len(b), r.Intn(40))
			last := n == len(b) && r.Intn(3) > 0
			list = append(list, api.Pdv{Context: context, Command: isCommand, Last: last, Data: b[:n]})
			b = b[n:]
			if last {
				return
			}
		}
	}
	b, _ := dimse.EncodeCmd(c)
	cut(true, b)
	if c.HasData {
		cut(false, numbered(r.Intn(100)))
	}
	return list
}

func spoilFragment(r *rand.Rand, v *api.Pdv) {
	switch r.Intn(5) {
	case 0:
		v.Context = uint8(r.Intn(6))
	case 1:
		v.Command = !v.Command
	case 2:
		v.Last = !v.Last
	case 3:
		v.Data = numbered([]int{4096, 4097, 65536, 65537}[r.Intn(4)])
	default:
		v.Data = spoil(r, v.Data)
	}
}
