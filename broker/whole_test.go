package broker_test

import (
	"fmt"
	"math/rand/v2"
	"slices"
	"testing"

	"modality/api"
	"modality/charset"
	"modality/dataset"
	"modality/dict"
	"modality/dimse"
	"modality/pdu"
)

// most is the bound of P16.11, but for the command sets of a query's answers.
const most = 5 + 32768 + 4096 + 65536 + 8*(4096+65536) + 1048576

// bare are so many keys that the dictionary does not know, of eight bytes each in Implicit.
func bare(n int) []api.Node {
	var keys []api.Node
	for i := range n {
		tag := api.Tag(0x00511000 + i)
		keys = append(keys, api.Node{Tag: tag, VR: dict.Default(tag)})
	}
	return keys
}

// TestHeldMost: a line that holds as much as it can.
func TestHeldMost(t *testing.T) {
	b := over(t, many(256))
	associate(t, b, 0, 0)
	keys := bare(512)
	held := 256 * 512 * 8
	do(t, b, data(0, said(askWith(3, api.CFind, 1, "", keys))))
	if got := b.Line(0); !got.Query || got.Held != held || held != 1048576 {
		t.Fatalf("P16.9: %s", shown(got))
	}
	for id := range uint16(8) {
		m := create(10+id, "1.9", nil)
		m.Data = make([]byte, 65536)
		do(t, b, data(0, said(m)))
		held += 4096 + 65536
		if b.Held(0) != held {
			t.Fatalf("P16.9: %d, not %d", b.Held(0), held)
		}
	}
	command, err := dimse.EncodeCmd(find(50).Cmd)
	if err != nil {
		t.Fatal(err)
	}
	fill := 4096 - len(command) - 8
	command = append(command, 0, 0, 0, 0x50, byte(fill), byte(fill>>8), 0, 0)
	command = append(command, make([]byte, fill)...)
	command[8], command[9] = byte((4096-12)&0xFF), byte((4096-12)>>8)
	do(t, b, data(0, dataPdu(api.Pdv{Context: 3, Command: true, Last: true, Data: command})))
	for range 8 {
		do(t, b, data(0, dataPdu(api.Pdv{Context: 3, Data: make([]byte, 8192)})))
	}
	held += 4096 + 65536
	if got := b.Line(0); got.Sta != 6 || got.Held != held {
		t.Fatalf("P16.9: %d, not %d", got.Held, held)
	}
	do(t, b, data(0, []byte{1, 0, 0, 0, 0x80, 0}, make([]byte, 32767)))
	held += 5 + 32768
	if got := b.Line(0); got.Sta != 6 || got.Held != held || held != most {
		t.Fatalf("P16.11: %d, not %d", got.Held, held)
	}
	do(t, b, data(0, []byte{0}))
	if got := b.Line(0); !same(got, api.LineLook{Sta: 13}) {
		t.Fatalf("P16.4: all is let go: %s", shown(got))
	}
}

// garbage are Acts that bring a line to no association.
func garbage(r *rand.Rand, n int) []api.Act {
	noise := make([]byte, r.IntN(40))
	for i := range noise {
		noise[i] = byte(r.Uint32())
	}
	if len(noise) > 0 && noise[0] == 1 {
		noise[0] = 2
	}
	rq := laid(asking(64))
	return [][]api.Act{
		{link(n)}, {drop(n)}, {data(n, noise)}, {data(n, said(create(1, "1.7", plain("A"))))}, {data(n, releaseRQ())}, {data(n, aborting(0, 0))},
		{link(n), data(n, rq[:r.IntN(len(rq))]), drop(n)}, {drop(n), link(n), data(n, laid(asking(63)))}, {data(n, make([]byte, 50000))},
	}[r.IntN(9)]
}

// TestIsolation: what goes out on a line, and the state, are the same whatever garbage comes on lines without an association (W5).
func TestIsolation(t *testing.T) {
	r := rand.New(rand.NewPCG(16, 5))
	for range 60 {
		b, twin := over(t, scheduled("A", "B")), over(t, scheduled("A", "B"))
		for _, a := range someScript() {
			want := do(t, twin, a)
			got := slices.DeleteFunc(do(t, b, a), func(o api.Out) bool { return o.Line >= 8 })
			if len(got) == 0 {
				got = nil
			}
			if !same(got, want) {
				t.Fatalf("W5: %s: %s, not %s", shown(a), shown(got), shown(want))
			}
			if !same(b.State(), twin.State()) || !same(b.Disk(), twin.Disk()) {
				t.Fatal("W5: the state")
			}
			for n := range 8 {
				if !same(b.Line(n), twin.Line(n)) {
					t.Fatalf("W5: line %d", n)
				}
			}
			for range r.IntN(4) {
				n := 8 + r.IntN(8)
				for _, a := range garbage(r, n) {
					for _, o := range do(t, b, a) {
						if o.Line != n {
							t.Fatalf("W5: %s", shown(o))
						}
					}
				}
			}
		}
	}
}

// inSyntax turns the contexts of a message to those of a syntax.
func inSyntax(m api.Message, s api.Syntax) api.Message {
	for _, c := range agreed() {
		if c.Class == m.Cmd.Class && (c.Syntax == s || c.Class == api.UIDVerify) {
			m.Context = c.Id
		}
	}
	return m
}

// meaning is what an answer says, whatever its syntax and character set are.
type meaning struct {
	Cmd   api.Cmd
	Nodes []api.Node
}

// TestTwoSyntaxes: the same requests in both syntaxes and in any character set that can say them have answers that mean the same (W8).
func TestTwoSyntaxes(t *testing.T) {
	requests := []struct {
		context     uint8
		field       uint16
		uid         string
		nodes       []api.Node
		withoutData bool
	}{
		{3, api.CFind, "", wide(), false},
		{3, api.CFind, "", list(el(api.TagPatientName, "Mü*"), el(api.TagBirthDate, "")), false},
		{3, api.CFind, "", list(el(api.TagBirthDate, "x")), false},
		{5, api.NCreate, "1.9", performed("A", "Müller", "schön"), false},
		{5, api.NCreate, "1.9", performed("A", "Müller", "schön"), false},
		{5, api.NCreate, "1.8", performed("A", "Müller", "schön")[1:], false},
		{5, api.NSet, "1.9", list(el(api.TagComments, "größer")), false},
		{7, api.NGet, "1.9", nil, true},
		{3, api.CFind, "", list(el(api.TagPatientName, ""), seq(api.TagSteps, holding(el(api.TagStepStatus, "")))), false},
	}
	var first [][]meaning
	for _, s := range []api.Syntax{api.Implicit, api.Explicit} {
		for _, set := range []string{"ISO_IR 100", "ISO_IR 192", "ISO_IR 148", `\ISO 2022 IR 100`} {
			st := api.State{Steps: []api.Step{named("A", "Müller"), named("B", "Doe")}}
			b := over(t, st)
			associate(t, b, 0, 100)
			var all [][]meaning
			for i, x := range requests {
				m := inSyntax(ask(x.context, x.field, uint16(i)), s)
				m.Cmd.Instance = x.uid
				if !x.withoutData {
					said, err := charset.Express(x.nodes, set)
					if err != nil {
						t.Fatal(err)
					}
					if m.Data, err = dataset.Encode(said, s); err != nil {
						t.Fatal(err)
					}
					m.Cmd.HasData = true
				}
				outs := do(t, b, data(0, said(m)), turn(5))
				var meant []meaning
				for _, a := range heard(t, 0, outs) {
					nodes, err := dataset.Decode(a.Data, s)
					if err != nil {
						t.Fatal(err)
					}
					if nodes, err = charset.Unify(nodes); err != nil {
						t.Fatal(err)
					}
					meant = append(meant, meaning{a.Cmd, nodes})
				}
				all = append(all, meant)
			}
			if first == nil {
				first = all
			}
			if !same(all, first) {
				t.Errorf("W8: syntax %d, %s: %s, not %s", s, set, shown(all), shown(first))
			}
		}
	}
	if len(first[0]) != 3 || len(first[1]) != 2 || first[3][0].Cmd.Status != 0 || len(first[7][0].Nodes) == 0 {
		t.Errorf("the test's requests: %s", shown(first))
	}
}

// TestOwed: behind as many turns as Owed tells every request is answered, and every release; it is 0 just where nothing runs and nothing waits (W10).
func TestOwed(t *testing.T) {
	r := rand.New(rand.NewPCG(16, 10))
	for round := range 200 {
		b := over(t, many(r.IntN(6)))
		owed, asked := map[int]int{}, map[int]int{}
		answered := map[int]int{}
		count := func(outs []api.Out) {
			for _, o := range outs {
				p, err := pdu.Decode(o.Data)
				if err != nil {
					t.Fatal(err)
				}
				for _, v := range p.Values {
					if !v.Command || !v.Last {
						continue
					}
					if c, err := dimse.DecodeCmd(v.Data); err == nil && c.Status != api.StPending {
						answered[o.Line]++
					}
				}
			}
		}
		for n := range 3 {
			associate(t, b, n, 0)
			for id := range uint16(r.IntN(9)) {
				m := []api.Message{find(id), echo(id), create(id, fmt.Sprintf("1.%d.%d", n, id), plain("A"))}[r.IntN(3)]
				count(do(t, b, data(n, said(m))))
				asked[n]++
			}
			if r.IntN(2) == 0 {
				count(do(t, b, data(n, releaseRQ())))
			}
			look := b.Line(n)
			owed[n] = b.Owed(n)
			if (owed[n] == 0) != (!look.Query && look.Queue == 0) {
				t.Fatalf("W10: %s", shown(look))
			}
		}
		turns := max(owed[0], owed[1], owed[2])
		count(do(t, b, turn(turns)))
		for n := range 3 {
			if look := b.Line(n); look.Owed != 0 || look.Leaving || look.Sta == 8 || answered[n] != asked[n] {
				t.Fatalf("W10: round %d: behind %d turns %d of %d are answered: %s", round, turns, answered[n], asked[n], shown(look))
			}
		}
	}
}

// TestLifecycle: a performed step ends once, over power cuts too (W3).
func TestLifecycle(t *testing.T) {
	for _, word := range []string{"COMPLETED", "DISCONTINUED"} {
		b := begun(t, config(), diskOf(t, scheduled("A")).Image())
		talk := func(m api.Message) uint16 {
			t.Helper()
			do(t, b, drop(0))
			associate(t, b, 0, 0)
			got := heard(t, 0, do(t, b, data(0, said(m))))
			if len(got) != 1 {
				t.Fatalf("W3: %s", shown(got))
			}
			return got[0].Cmd.Status
		}
		for i, x := range []struct {
			m    api.Message
			want uint16
		}{
			{set(1, "1.9", finish(word)), 0x112},
			{create(1, "1.9", plain("A")), 0},
			{set(1, "1.9", list(el(api.TagComments, "x"))), 0},
			{create(1, "1.9", plain("A")), 0x111},
			{set(1, "1.9", finish(word)), 0},
			{set(1, "1.9", finish(word)), 0x110},
			{set(1, "1.9", finish("COMPLETED")), 0x110},
			{set(1, "1.9", list(el(api.TagComments, "y"))), 0x110},
			{create(1, "1.9", plain("A")), 0x111},
		} {
			was := b.State()
			if got := talk(x.m); got != x.want {
				t.Fatalf("W3: request %d: %x", i, got)
			}
			if now := b.State(); x.want != 0 && !same(now, was) {
				t.Fatalf("W3: request %d was refused, and has changed %s into %s", i, shown(was), shown(now))
			}
			was = b.State()
			do(t, b, power(none()), start())
			hasState(t, "W2: behind a start", b, was)
		}
	}
}

// TestWhole16: sixteen associations at one time, and no seventeenth line.
func TestWhole16(t *testing.T) {
	b := over(t, scheduled("A"))
	for n := range 16 {
		associate(t, b, n, 64)
		do(t, b, data(n, said(find(uint16(n)))))
	}
	var want []api.Out
	for n := range 16 {
		want = append(want, answers(n, 64, match(find(uint16(n)), "A"))...)
	}
	gives(t, "P16.6: sixteen lines", b, turn(1), want...)
	if _, err := b.Do(link(16)); !isFault(err, 2, api.ErrBrokerAct) {
		t.Errorf("P16.2: %v", err)
	}
}
