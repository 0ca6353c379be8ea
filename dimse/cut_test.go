package dimse_test

import (
	"bytes"
	"math"
	"math/rand"
	"testing"

	"modality/api"
	"modality/dimse"
	"modality/pdu"
)

// numbered is so many bytes that are told apart by their places.
func numbered(size int) []byte {
	if size == 0 {
		return nil
	}
	b := make([]byte, size)
	for i := range b {
		b[i] = byte(i + i/251)
	}
	return b
}

// TestCutExample: the document's fourth example.
func TestCutExample(t *testing.T) {
	c := echo()
	c.HasData = true
	data := numbered(130)
	pdus, err := dimse.Cut(api.Message{Context: 3, Cmd: c, Data: data}, 64)
	if err != nil {
		t.Fatalf("P10.4: %v", err)
	}
	b := echoed()
	b[66], b[67] = 1, 0
	var want []api.Pdu
	for _, v := range []api.Pdv{
		{Context: 3, Command: true, Data: b[:58]}, {Context: 3, Command: true, Last: true, Data: b[58:]},
		{Context: 3, Data: data[:58]}, {Context: 3, Data: data[58:116]}, {Context: 3, Last: true, Data: data[116:]},
	} {
		want = append(want, api.Pdu{Kind: api.PduData, Values: []api.Pdv{v}})
	}
	if !same(pdus, want) {
		t.Errorf("P10.4: %s; want %s", shown(pdus), shown(want))
	}
	for i, length := range []int{64, 16, 64, 64, 20} {
		if laid, err := pdu.Encode(pdus[i]); err != nil || len(laid) != 6+length {
			t.Errorf("P10.4: P-DATA-TF %d: %d bytes, %v; want the length %d", i, len(laid), err, length)
		}
	}
}

// TestCutRefusals: each reason, and of two the first.
func TestCutRefusals(t *testing.T) {
	wrong, data := api.Cmd{Field: 0x31}, []byte{1}
	for _, x := range []struct {
		m    api.Message
		most int
		code api.Errno
		at   int
	}{
		{api.Message{Context: 1, Cmd: echo()}, 63, api.ErrDimseMax, 0},
		{api.Message{Context: 1, Cmd: echo()}, 1, api.ErrDimseMax, 0},
		{api.Message{Context: 1, Cmd: echo()}, -1, api.ErrDimseMax, 0},
		{api.Message{Context: 1, Cmd: echo()}, -64, api.ErrDimseMax, 0},
		{api.Message{Context: 1, Cmd: echo()}, math.MinInt, api.ErrDimseMax, 0},
		{api.Message{Context: 2, Cmd: wrong, Data: data}, 63, api.ErrDimseMax, 0},
		{api.Message{Context: 0, Cmd: echo()}, 64, api.ErrDimseContext, 0},
		{api.Message{Context: 2, Cmd: echo()}, 0, api.ErrDimseContext, 0},
		{api.Message{Context: 254, Cmd: wrong, Data: data}, 64, api.ErrDimseContext, 0},
		{api.Message{Context: 1, Cmd: wrong, Data: data}, 64, api.ErrDimseField, 0},
		{api.Message{Context: 1, Cmd: api.Cmd{Field: 0x30}, Data: data}, 64, api.ErrDimseMissing, 1},
		{api.Message{Context: 1, Cmd: api.Cmd{Field: 0x30, Class: "1", To: 1}, Data: data}, 64, api.ErrDimseUnused, 4},
		{api.Message{Context: 1, Cmd: api.Cmd{Field: 0x8030, Comment: " "}, Data: data}, 64, api.ErrDimseValue, 9},
		{api.Message{Context: 1, Cmd: api.Cmd{Field: 0x8030, Attrs: make([]api.Tag, 1100)}, Data: data}, 64, api.ErrDimseLong, api.MaxCommand},
		{api.Message{Context: 1, Cmd: echo(), Data: data}, 64, api.ErrDimseData, 0},
		{api.Message{Context: 1, Cmd: echo(), Data: make([]byte, api.MaxSet+1)}, 64, api.ErrDimseData, 0},
		{api.Message{Context: 1, Cmd: find(), Data: make([]byte, api.MaxSet+1)}, 64, api.ErrDimseLong, api.MaxSet},
		{api.Message{Context: 1, Cmd: find(), Data: make([]byte, 1<<24)}, 0, api.ErrDimseLong, api.MaxSet},
	} {
		if pdus, err := dimse.Cut(x.m, x.most); pdus != nil || !is(err, x.code, x.at) {
			t.Errorf("P10.4: %s, most %d: %s, %v; want %d at %d", shown(x.m), x.most, shown(pdus), err, x.code, x.at)
		}
	}
}

// wantCut fails if a message is not taken apart by the words of P10.4.
func wantCut(t *testing.T, m api.Message, most int) []api.Pdu {
	t.Helper()
	pdus, err := dimse.Cut(m, most)
	if err != nil {
		t.Fatalf("P10.4: %s, most %d: %v", shown(m), most, err)
	}
	size := most
	if most == 0 || most > 16384 {
		size = 16384
	}
	bound := size
	size -= 6
	if size%2 == 1 {
		size--
	}
	parts := [][]byte{mustEncode(t, m.Cmd)}
	if m.Cmd.HasData {
		parts = append(parts, m.Data)
	}
	at := 0
	for n, bytesLeft := range parts {
		for first := true; first || len(bytesLeft) > 0; first = false {
			want := api.Pdv{Context: m.Context, Command: n == 0, Last: len(bytesLeft) <= size}
			want.Data = append([]byte(nil), bytesLeft[:min(size, len(bytesLeft))]...)
			if at >= len(pdus) || !same(pdus[at], api.Pdu{Kind: api.PduData, Values: []api.Pdv{want}}) {
				t.Fatalf("P10.4: most %d, P-DATA-TF %d of %d is not %s", most, at, len(pdus), shown(want))
			}
			if laid, err := pdu.Encode(pdus[at]); err != nil || len(laid) > 6+bound {
				t.Fatalf("P10.7: most %d, P-DATA-TF %d: %d bytes, %v", most, at, len(laid), err)
			}
			bytesLeft = bytesLeft[len(want.Data):]
			at++
		}
	}
	if at != len(pdus) {
		t.Fatalf("P10.4: most %d: %d P-DATA-TFs, want %d", most, len(pdus), at)
	}
	return pdus
}

// TestCutSizes: the limits' edges of the length, and data whose last fragment is empty, one byte, just full.
func TestCutSizes(t *testing.T) {
	for _, most := range []int{64, 65, 66, 67, 100, 1000, 16382, 16383, 16384, 16385, 16386, 20000, 1 << 20, math.MaxInt, 0} {
		size := 16378
		if most != 0 && most < 16384 {
			size = (most - 6) / 2 * 2
		}
		for _, n := range []int{0, 1, 2, size - 1, size, size + 1, 2*size - 1, 2 * size, 2*size + 1} {
			wantCut(t, api.Message{Context: 255, Cmd: find(), Data: numbered(n)}, most)
		}
	}
	wantCut(t, api.Message{Context: 1, Cmd: find(), Data: numbered(api.MaxSet)}, 64)
	wantCut(t, api.Message{Context: 1, Cmd: find(), Data: numbered(api.MaxSet)}, 0)
	wantCut(t, api.Message{Context: 1, Cmd: echo(), Data: []byte{}}, 0)
	wantCut(t, api.Message{Context: 1, Cmd: find(), Data: []byte{}}, 64)
	// Commands whose bytes are just one fragment, or just two.
	for _, tags := range []int{0, 1, 3, 11, 15, 900} {
		for _, most := range []int{64, 80, 108, 110, 114, 4096} {
			wantCut(t, api.Message{Context: 1, Cmd: api.Cmd{Field: 0x8110, Attrs: make([]api.Tag, tags)}}, most)
		}
	}
}

// TestCutAndJoin: messages at random, cut at random lengths, are joined again, on one joiner after another, and nothing is told ahead of the last fragment.
func TestCutAndJoin(t *testing.T) {
	d, r := readDocument(), rand.New(rand.NewSource(103))
	contexts := []api.Context{{Id: 1}, {Id: 3}, {Id: 255}}
	server, asker := dimse.NewJoiner(contexts, true), dimse.NewJoiner(contexts, false)
	for range 4000 {
		m := api.Message{Context: []uint8{1, 3, 255}[r.Intn(3)], Cmd: someCmd(r, d)}
		if m.Cmd.HasData {
			m.Data = numbered(r.Intn([]int{1, 10, 300, 10000}[r.Intn(4)]))
		}
		most := []int{0, 64, 65, 100, 333, 5000, 16384, 99999}[r.Intn(8)]
		pdus := wantCut(t, m, most)
		joiners := []*dimse.Joiner{asker}
		if m.Cmd.Field < 0x8000 && !(m.Cmd.Field == 0x0FFF && m.Cmd.HasData) {
			joiners = append(joiners, server)
		}
		for _, j := range joiners {
			wantJoined(t, j, pdus, m)
		}
	}
}

// wantJoined fails if a joiner does not tell a message just at the last of its fragments.
func wantJoined(t *testing.T, j *dimse.Joiner, pdus []api.Pdu, want api.Message) {
	t.Helper()
	held := 0
	for i, p := range pdus {
		got, whole, err := j.Take(p.Values[0])
		last := i == len(pdus)-1
		if err != nil || whole != last {
			t.Fatalf("P10.7: fragment %d of %d: %v, %v", i, len(pdus), whole, err)
		}
		held += len(p.Values[0].Data)
		if last {
			held = 0
		}
		if j.Held() != held {
			t.Fatalf("P10.6: fragment %d of %d: %d held, want %d", i, len(pdus), j.Held(), held)
		}
		if !last && !same(got, api.Message{}) || last && !same(got, want) {
			t.Fatalf("P10.7: fragment %d of %d: %s; want %s", i, len(pdus), shown(got), shown(want))
		}
	}
}

// TestJoinMost: MaxData bytes of data come through, one more is cut but not joined.
func TestJoinMost(t *testing.T) {
	for _, most := range []int{64, 0} {
		m := api.Message{Context: 1, Cmd: find(), Data: numbered(api.MaxData)}
		j := dimse.NewJoiner([]api.Context{{Id: 1}}, true)
		wantJoined(t, j, wantCut(t, m, most), m)
		m.Data = numbered(api.MaxData + 1)
		pdus := wantCut(t, m, most)
		for i, p := range pdus {
			got, whole, err := j.Take(p.Values[0])
			if last := i == len(pdus)-1; whole || !same(got, api.Message{}) || !last && err != nil || last && !is(err, api.ErrDimseLong, api.MaxData) {
				t.Fatalf("P10.5: fragment %d of %d: %v, %v", i, len(pdus), whole, err)
			}
		}
	}
}

// TestCutMemory: what is handed in stays, and no two fragments, nor those of two calls, share memory.
func TestCutMemory(t *testing.T) {
	c := answer()
	c.Offending = append(c.Offending, 9, 9)[:len(c.Offending)]
	c.Attrs = append(c.Attrs, 9, 9)[:len(c.Attrs)]
	room := append(numbered(200), 9, 9, 9)
	m := api.Message{Context: 1, Cmd: c, Data: room[:200]}
	first, err := dimse.Cut(m, 64)
	if err != nil {
		t.Fatal(err)
	}
	second, _ := dimse.Cut(m, 64)
	want, _ := dimse.Cut(m, 64)
	if !bytes.Equal(room, append(numbered(200), 9, 9, 9)) || !same(c.Offending[:5], append(answer().Offending, 9, 9)) || !same(c.Attrs[:3], append(answer().Attrs, 9, 9)) {
		t.Errorf("DOC.md, Memory: Cut changes what it is given")
	}
	for i := range first {
		dirty(first[i].Values[0].Data)
		values := first[i].Values[:cap(first[i].Values)]
		clear(values[1:])
		values[0].Context = 77
		if !same(first[i+1:], want[i+1:]) || !same(second, want) || !bytes.Equal(room[:200], numbered(200)) {
			t.Fatalf("DOC.md, Memory: fragment %d is shared", i)
		}
	}
	dirty(room)
	if !same(second, want) {
		t.Errorf("DOC.md, Memory: fragments hang on the data that were handed in")
	}
}

// dirty overwrites bytes and the spare room behind them.
func dirty(b []byte) {
	b = b[:cap(b)]
	for i := range b {
		b[i] = 0xEE
	}
}
