package dimse_test

import (
	"bytes"
	"testing"

	"modality/api"
	"modality/dimse"
)

// refusals calls every face with what it refuses, each reason once.
func refusals() map[string]error {
	faults := map[string]error{}
	write := func(reason string, c api.Cmd) { _, faults["EncodeCmd, "+reason] = dimse.EncodeCmd(c) }
	read := func(reason string, b []byte) { _, faults["DecodeCmd, "+reason] = dimse.DecodeCmd(b) }
	cut := func(reason string, m api.Message, most int) { _, faults["Cut, "+reason] = dimse.Cut(m, most) }
	take := func(reason string, j *dimse.Joiner, v api.Pdv) { _, _, faults["Take, "+reason] = j.Take(v) }
	write("field", api.Cmd{})
	write("unused", api.Cmd{Field: 0x8030, Id: 1})
	write("missing", api.Cmd{Field: 0x0030})
	write("value", api.Cmd{Field: 0x0030, Class: "x"})
	write("long", api.Cmd{Field: 0x8030, Attrs: make([]api.Tag, 5000)})
	read("long", make([]byte, 5000))
	read("short", raw(0))
	read("tag", make([]byte, 16))
	read("length", raw(0, 0, 0, 0, 1, 0, 0, 0))
	read("group", nil)
	read("field", set())
	read("missing", set(us(0x0100, 0x0030)))
	read("value", set(us(0x0100, 0x0FFF), text(0x0120, ""), us(0x0800, 1)))
	cut("max", api.Message{}, 1)
	cut("context", api.Message{}, 0)
	cut("field", api.Message{Context: 1}, 0)
	cut("data", api.Message{Context: 1, Cmd: echo(), Data: raw(1)}, 0)
	cut("long", api.Message{Context: 1, Cmd: find(), Data: make([]byte, api.MaxSet+1)}, 0)
	take("zero", nil, api.Pdv{})
	take("plain", &dimse.Joiner{}, api.Pdv{})
	over := oneAndThree(true)
	take("context", over, api.Pdv{})
	take("over", over, api.Pdv{})
	take("over again", over, api.Pdv{})
	take("kind", oneAndThree(true), data(1, true, nil))
	take("long", oneAndThree(true), command(1, true, make([]byte, 5000)))
	take("group", oneAndThree(true), command(1, true, nil))
	answered, _ := dimse.EncodeCmd(answer())
	take("side", oneAndThree(true), command(1, true, answered))
	return faults
}

// TestFaults: each refusal is a new fault of this layer with a number of this layer, or ErrZero, so that nobody can change another's.
func TestFaults(t *testing.T) {
	seen := map[*api.Fault]string{}
	for range 2 {
		for call, err := range refusals() {
			f, ok := err.(*api.Fault)
			if !ok || f == nil || f.Layer != "dimse" {
				t.Errorf("DOC.md, Errors: %s: %v", call, err)
				continue
			}
			number, ok := f.Err.(api.Errno)
			if !ok || number != api.ErrZero && (number < 200 || number > 214) {
				t.Errorf("DOC.md, Errors: %s: %v", call, err)
			}
			if seen[f] != "" {
				t.Errorf("DOC.md, Errors: %s and %s give one fault", call, seen[f])
			}
			seen[f] = call
			f.Layer, f.At, f.Err = "changed", -1, nil
		}
	}
}

// TestEncodeMemory: what is handed to EncodeCmd stays as it is, spare room included, and its answers are new.
func TestEncodeMemory(t *testing.T) {
	c := answer()
	c.Offending = append(c.Offending, 9, 9)[:len(c.Offending)]
	c.Attrs = append(c.Attrs, 9, 9)[:len(c.Attrs)]
	first := mustEncode(t, c)
	second, want := mustEncode(t, c), bytes.Clone(first)
	dirty(first)
	if !bytes.Equal(second, want) || !bytes.Equal(mustEncode(t, c), want) {
		t.Errorf("DOC.md, Memory: an answer of EncodeCmd shares memory")
	}
	if !same(c, answer()) || !same(c.Offending[:5], append(answer().Offending, 9, 9)) || !same(c.Attrs[:3], append(answer().Attrs, 9, 9)) {
		t.Errorf("DOC.md, Memory: EncodeCmd changes what it is given")
	}
}

// overwrite overwrites the lists of a command, spare room included, and lets look look behind each.
func overwrite(c api.Cmd, look func(what string)) {
	for i, list := range [][]api.Tag{c.Offending, c.Attrs} {
		list = list[:cap(list)]
		for k := range list {
			list[k] = 0xEEEEEEEE
		}
		look([]string{"Offending", "Attrs"}[i])
	}
}

// TestDecodeMemory: what DecodeCmd answers hangs neither on its bytes nor on another answer, and no two of its lists share memory.
func TestDecodeMemory(t *testing.T) {
	b := mustEncode(t, answer())
	room := append(bytes.Clone(b), 9, 9, 9)
	first, err := dimse.DecodeCmd(room[:len(b)])
	second, _ := dimse.DecodeCmd(room[:len(b)])
	if err != nil || !bytes.Equal(room, append(bytes.Clone(b), 9, 9, 9)) {
		t.Fatalf("DOC.md, Memory: %v, the bytes are now %s", err, hex(room))
	}
	dirty(room)
	if !same(first, answer()) {
		t.Errorf("DOC.md, Memory: an answer of DecodeCmd hangs on its bytes: %s", shown(first))
	}
	overwrite(first, func(what string) {
		if !same(second, answer()) || what == "Offending" && !same(first.Attrs, answer().Attrs) {
			t.Errorf("DOC.md, Memory: %s of an answer of DecodeCmd is shared", what)
		}
	})
}

// TestJoinMemory: a joiner keeps neither its contexts' list nor a fragment's bytes, and a message that was told is nobody else's.
func TestJoinMemory(t *testing.T) {
	contexts := []api.Context{{Id: 1}, {Id: 3}}
	j := dimse.NewJoiner(contexts, false)
	if contexts[0].Id != 1 || contexts[1].Id != 3 {
		t.Errorf("DOC.md, Memory: NewJoiner changes its contexts")
	}
	contexts[0].Id, contexts[1].Id = 5, 7
	b, all := mustEncode(t, answer()), numbered(5000) // more than the next command has: old memory would hold it
	var told []api.Message
	for range 3 {
		var m api.Message
		for _, v := range []api.Pdv{command(3, false, b[:50]), command(3, true, b[50:]), data(3, false, all[:4]), data(3, true, all[4:])} {
			room := append(bytes.Clone(v.Data), 9, 9, 9)
			v.Data = room[:len(v.Data)]
			want := bytes.Clone(room)
			var err error
			if m, _, err = j.Take(v); err != nil || !bytes.Equal(room, want) {
				t.Fatalf("DOC.md, Memory: %v, the fragment is now %s", err, hex(room))
			}
			dirty(room)
			for i := range told {
				dirty(told[i].Data)
			}
		}
		if want := (api.Message{Context: 3, Cmd: answer(), Data: all}); !same(m, want) {
			t.Fatalf("DOC.md, Memory: %s; want %s", shown(m), shown(want))
		}
		for _, earlier := range told {
			overwrite(earlier.Cmd, func(what string) {
				if !same(m.Cmd, answer()) {
					t.Errorf("DOC.md, Memory: %s of two messages is shared", what)
				}
			})
		}
		told = append(told, m)
	}
}

// TestJoinersApart: what one joiner is told turns nothing for another.
func TestJoinersApart(t *testing.T) {
	a, b := oneAndThree(true), oneAndThree(true)
	f := mustEncode(t, find())
	wantTaken(t, a, command(1, true, f), len(f))
	wantTaken(t, b, command(3, false, f[:9]), 9)
	wantTaken(t, a, data(1, false, raw(1)), len(f)+1)
	wantStopped(t, b, data(3, true, nil), api.ErrDimseKind, 1)
	wantTold(t, a, data(1, true, raw(2)), api.Message{Context: 1, Cmd: find(), Data: raw(1, 2)})
}
