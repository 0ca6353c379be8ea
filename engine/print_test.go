package engine_test

import (
	"math"
	"strings"
	"testing"

	"modality/api"
	"modality/dump"
	"modality/engine"
)

// printsAs: Print writes of a script what the second writer writes, or refuses it where that can't.
func printsAs(t *testing.T, what string, s api.Script) {
	t.Helper()
	got, err := engine.Print(s)
	want, wantErr := printAgain(s)
	if got != want || !same(err, wantErr) {
		t.Fatalf("P18.2: %s: %s: %s, %v, not %s, %v", what, shown(s), shown(got), err, shown(want), wantErr)
	}
	if err != nil {
		return
	}
	back, err := engine.Parse(got)
	if err != nil || !same(bare(back), bare(s)) {
		t.Fatalf("P18.2: %s: %s is read as %s, %v", what, shown(got), shown(back), err)
	}
}

// manned is a script's head with scanners on the lines 0 and 15.
func manned() api.Script {
	c := api.ScuConfig{Title: "CT1", Called: "RIS", Classes: []string{api.UIDVerify}, Syntaxes: []api.Syntax{api.Explicit}, Artim: 3}
	return api.Script{
		Config:   api.Config{Title: "RIS", Lines: 2, Artim: 10, Compact: 20},
		Disk:     api.DiskConfig{Blocks: 2000, Names: 8},
		Scanners: []api.ScriptScanner{{Line: 15, Config: c}, {Config: c}},
	}
}

// oneOfEach is a happening of every kind, with everything in it that its line says.
func oneOfEach() []api.Hap {
	keeps := api.PowerCut{Files: []api.DiskKeep{{Id: 3, Units: 4}, {Id: 2}, {Id: 3, Units: 1}}, Dir: 5}
	do := func(d api.ScuDo) api.Hap { return api.Hap{Kind: api.HapDo, At: 15, Do: d} }
	act := func(a api.Act) api.Hap { return api.Hap{Kind: api.HapAct, Act: a} }
	return []api.Hap{
		do(api.ScuDo{Kind: api.DoConnect}), do(api.ScuDo{Kind: api.DoRelease}), do(api.ScuDo{Kind: api.DoAbort}),
		do(api.ScuDo{Kind: api.DoEcho, Id: 7}), do(api.ScuDo{Kind: api.DoCancel, Id: 65535}),
		do(api.ScuDo{Kind: api.DoFind, Id: 1, Nodes: performed("A", "Müller", "a\nb"), Charset: "ISO_IR 100"}),
		do(api.ScuDo{Kind: api.DoCreate, Id: 2, UID: "1.2", Nodes: ended("X"), Charset: `\`}),
		do(api.ScuDo{Kind: api.DoSet, Id: 3, UID: "1 2"}),
		do(api.ScuDo{Kind: api.DoGet, Id: 4, UID: "1.3", Attrs: []api.Tag{0x00100010, 0xfffee000, 0, 0xffffffff}}),
		act(api.Act{Kind: api.ALink, Line: 1}), act(api.Act{Kind: api.AData, Line: 16, Data: []byte{0, 255, 0x1a}}), act(api.Act{Kind: api.ADrop, Line: math.MaxInt32}),
		{Kind: api.HapOrder, Text: "MSH|^~\\&|\r\"\x0b\x7f\x80é\n\t"},
		act(api.Act{Kind: api.AFeed, Data: []byte("\x0babc")}), act(api.Act{Kind: api.AFeedLink}), act(api.Act{Kind: api.ATurn, Count: 1}), act(api.Act{Kind: api.ATick, Count: math.MaxInt32}),
		act(api.Act{Kind: api.ARoom, Count: 2}), act(api.Act{Kind: api.AFuse, Count: 3, Keeps: keeps}), act(api.Act{Kind: api.APower, Keeps: keeps}), act(api.Act{Kind: api.AStart}),
	}
}

func TestPrintLayout(t *testing.T) {
	s := manned()
	s.Config.Callers = []string{"", "A B"}
	s.Scanners[0].Config.Syntaxes = []api.Syntax{api.Implicit, api.Explicit}
	s.Scanners[0].Config.Classes = []string{api.UIDRetrieve, api.UIDVerify, api.UIDPerform, api.UIDWorklist}
	s.Scanners[0].Config.Most = math.MaxInt32
	s.Haps = oneOfEach()
	s.Haps[5].Do.Nodes = list(el(api.TagPatientName, "Müller"), seq(api.TagSteps, holding(el(api.TagModality, "CT"))))
	s.Haps[6].Do.Nodes = nil
	want := joined(`server "RIS" 2 10 20 2000 8`, `caller ""`, `caller "A B"`,
		`scanner 15 "CT1" "RIS" 2147483647 3 implicit,explicit retrieve,verify,perform,worklist`, `scanner 0 "CT1" "RIS" 0 3 explicit verify`,
		"connect 15", "release 15", "abort 15", "echo 15 7", "cancel 15 65535",
		`find 15 1 "ISO_IR 100" {`, `  (0010,0010) PN "Müller"`, `  (0040,0100) SQ {`, `    item {`, `      (0008,0060) CS "CT"`, `    }`, `  }`, `}`,
		`create 15 2 "1.2" "\\" {`, `}`, `set 15 3 "1 2" "" {`, `}`, `get 15 4 "1.3" (0010,0010) (FFFE,E000) (0000,0000) (FFFF,FFFF)`,
		"link 1", "data 16 00ff1a", "drop 2147483647", `order "MSH|^~\\&|\r\"\x0b\x7f\x80é\n\t"`, "feed 0b616263", "feedlink",
		"turn 1", "tick 2147483647", "room 2", "fuse 3 3:4 2:0 3:1 dir:5", "power 3:4 2:0 3:1 dir:5", "start")
	if got, err := engine.Print(s); err != nil || got != want {
		t.Errorf("P18.2: %v\n%s\nnot\n%s", err, got, want)
	}
	printsAs(t, "one of each", s)
	zero := joined(`server "" 0 0 0 0 0`)
	for _, s := range []api.Script{{}, {Config: api.Config{Callers: []string{}}, Scanners: []api.ScriptScanner{}, Haps: []api.Hap{}}} {
		if got, err := engine.Print(s); err != nil || got != zero {
			t.Errorf("P18.2: a script of nothing: %q, %v", got, err)
		}
	}
	empty := manned()
	empty.Haps = []api.Hap{{Kind: api.HapAct, Act: api.Act{Kind: api.AFeed, Data: []byte{}, Keeps: api.PowerCut{Files: []api.DiskKeep{}}}, Do: api.ScuDo{Nodes: []api.Node{}, Attrs: []api.Tag{}}}, {Kind: api.HapAct, Act: api.Act{Kind: api.APower}}, {Kind: api.HapOrder}}
	printsAs(t, "lists without elements", empty)
}

// TestPrintQuotes: every byte, and every two, in a word.
func TestPrintQuotes(t *testing.T) {
	t.Parallel()
	for a := range 256 {
		var texts []string
		for b := range 256 {
			texts = append(texts, string([]byte{byte(a), byte(b)}), string([]byte{0xe2, byte(a), byte(b)}), string([]byte{0xf0, 0x9f, byte(a), byte(b)}))
		}
		texts = append(texts, string([]byte{byte(a)}), string(rune(a)), string(rune(a))+"\ufffd"+string([]byte{byte(a)}))
		printsAs(t, "a text", api.Script{Config: api.Config{Callers: texts}})
	}
}

// numbersToTry are on both sides of each bound.
func numbersToTry() []int {
	return []int{math.MinInt, -1 << 31, -1, 0, 1, 15, 16, 65535, 65536, 1<<31 - 1, 1 << 31, 1 << 32, math.MaxInt}
}

// TestPrintHead: every field of a configuration, a disk and a scanner.
func TestPrintHead(t *testing.T) {
	for _, n := range numbersToTry() {
		for _, set := range []func(*api.Script){
			func(s *api.Script) { s.Config.Lines = n },
			func(s *api.Script) { s.Config.Artim = n },
			func(s *api.Script) { s.Config.Compact = n },
			func(s *api.Script) { s.Disk.Blocks = n },
			func(s *api.Script) { s.Disk.Names = n },
			func(s *api.Script) { s.Scanners[0].Line = n },
			func(s *api.Script) { s.Scanners[1].Line = n },
			func(s *api.Script) { s.Scanners[1].Config.Artim = n },
			func(s *api.Script) { s.Scanners[1].Config.Most = uint32(n) },
			func(s *api.Script) { s.Scanners[1].Config.Syntaxes = []api.Syntax{api.Syntax(n)} },
			func(s *api.Script) { s.Scanners[1].Config.Syntaxes = []api.Syntax{1, api.Syntax(n)} },
			func(s *api.Script) { s.Scanners[1].Config.Syntaxes = []api.Syntax{1, 2, api.Syntax(n)} },
		} {
			s := manned()
			set(&s)
			printsAs(t, "a head", s)
			s.Haps = []api.Hap{{Kind: 9}}
			printsAs(t, "a head, and a wrong happening", s)
		}
	}
	for _, list := range [][]api.Syntax{nil, {}, {1}, {2}, {1, 2}, {2, 1}, {1, 1}, {2, 2}, {1, 2, 1}, {3}, {0}} {
		s := manned()
		s.Scanners[0].Config.Syntaxes = list
		printsAs(t, "syntaxes", s)
	}
	all := []string{api.UIDVerify, api.UIDWorklist, api.UIDPerform, api.UIDRetrieve, "", "verify", "1.2"}
	for _, a := range all {
		for _, b := range all {
			for _, list := range [][]string{nil, {}, {a}, {a, b}, {a, b, a}, {a, b, api.UIDVerify, api.UIDRetrieve}} {
				s := manned()
				s.Scanners[0].Config.Classes = list
				printsAs(t, "classes", s)
			}
		}
	}
}

// TestPrintHappenings: every happening with every field of every other, and every number in it.
func TestPrintHappenings(t *testing.T) {
	var turns []func(*api.Hap)
	turn := func(f func(*api.Hap)) { turns = append(turns, f) }
	for _, n := range append(numbersToTry(), 2, 3, 4, 5, 6, 7, 8, 9, 10, 11, 12) {
		turn(func(h *api.Hap) { h.Line = n })
		turn(func(h *api.Hap) { h.Kind = n })
		turn(func(h *api.Hap) { h.At = n })
		turn(func(h *api.Hap) { h.Do.Kind = n })
		turn(func(h *api.Hap) { h.Do.Id = uint16(n) })
		turn(func(h *api.Hap) { h.Do.Count = n })
		turn(func(h *api.Hap) { h.Act.Kind = n })
		turn(func(h *api.Hap) { h.Act.Line = n })
		turn(func(h *api.Hap) { h.Act.Count = n })
		turn(func(h *api.Hap) { h.Act.Keeps.Dir = n })
		turn(func(h *api.Hap) { h.Act.Keeps.Files = []api.DiskKeep{{Id: 1, Units: n}} })
		turn(func(h *api.Hap) { h.Act.Keeps.Files = []api.DiskKeep{{Id: 1}, {Id: uint64(n), Units: 1}} })
	}
	for _, text := range []string{"", "x", "\n"} {
		turn(func(h *api.Hap) { h.Text = text })
		turn(func(h *api.Hap) { h.Do.UID = text })
		turn(func(h *api.Hap) { h.Do.Charset = text })
		turn(func(h *api.Hap) { h.Act.Data = []byte(text) })
	}
	for _, nodes := range [][]api.Node{nil, {}, {el(api.TagModality, "CT")}, {el(api.TagModality, "CT ")}, {el(api.TagModality, "CT"), el(api.TagCharset, "")}, {{Tag: api.TagModality, VR: api.VRLO}}, {{}}, {{Tag: api.TagSteps, VR: api.VRSQ, N: 1}}, {{Tag: 0x00091001, VR: api.VRNone}}, {{Tag: 0x00091001, VR: api.VRUN, Value: "\"\n"}}} {
		turn(func(h *api.Hap) { h.Do.Nodes = nodes })
	}
	for _, tags := range [][]api.Tag{nil, {}, {0}, {1, 1}} {
		turn(func(h *api.Hap) { h.Do.Attrs = tags })
	}
	for _, h := range append(oneOfEach(), api.Hap{}) {
		for _, f := range turns {
			s := manned()
			g := h
			f(&g)
			s.Haps = []api.Hap{g}
			printsAs(t, "a happening", s)
		}
	}
	for _, a := range oneOfEach() {
		for _, b := range oneOfEach() {
			s := manned()
			s.Haps = []api.Hap{{Kind: a.Kind, At: b.At, Do: a.Do, Act: b.Act, Text: a.Text}, {Kind: b.Kind, Do: a.Do, Act: b.Act}, a}
			printsAs(t, "two mixed", s)
			s.Haps[0], s.Haps[2] = s.Haps[2], s.Haps[0]
			printsAs(t, "two mixed, the other way round", s)
		}
	}
}

// TestPrintManned: where scanners stand.
func TestPrintManned(t *testing.T) {
	for line := range 18 {
		s := manned()
		s.Haps = []api.Hap{{Kind: api.HapDo, At: line, Do: api.ScuDo{Kind: api.DoConnect}}, {Kind: api.HapAct, Act: api.Act{Kind: api.ADrop, Line: line}}}
		printsAs(t, "both", s)
		s.Haps = s.Haps[1:]
		printsAs(t, "the server's", s)
	}
}

func TestPrintLimits(t *testing.T) {
	order := func(size int) api.Script {
		return api.Script{Haps: []api.Hap{{Kind: api.HapOrder, Text: strings.Repeat("a", size)}}}
	}
	const around = len("server \"\" 0 0 0 0 0\norder \"\"\n")
	if text, err := engine.Print(order(api.MaxDump - around)); err != nil || len(text) != api.MaxDump {
		t.Errorf("P18.2: at the limit: %d bytes, %v", len(text), err)
	}
	tooLong := func(what string, s api.Script) {
		t.Helper()
		if text, err := engine.Print(s); text != "" || !same(err, fault(0, api.ErrEngineLong)) {
			t.Errorf("P18.2: %s: %v", what, err)
		}
		s.Haps = append(append([]api.Hap{}, s.Haps...), api.Hap{Kind: 7})
		if _, err := engine.Print(s); !same(err, fault(len(s.Haps), api.ErrEngineScript)) {
			t.Errorf("P18.2: %s, and no happening: %v", what, err)
		}
	}
	tooLong("one more", order(api.MaxDump-around+1))
	tooLong("far more", order(1<<24))
	tooLong("a title", api.Script{Config: api.Config{Title: strings.Repeat("\x00", api.MaxDump/4)}})
	tooLong("bytes", api.Script{Haps: []api.Hap{{Kind: api.HapAct, Act: api.Act{Kind: api.AFeed, Data: make([]byte, api.MaxDump/2)}}}})
	tooLong("far more bytes", api.Script{Haps: []api.Hap{{Kind: api.HapAct, Act: api.Act{Kind: api.AFeed, Data: make([]byte, 1<<24)}}}})
	tooLong("callers", api.Script{Config: api.Config{Callers: make([]string, api.MaxDump/10)}})
	var keeps api.PowerCut
	keeps.Files = make([]api.DiskKeep, api.MaxDump/4)
	tooLong("keeps", api.Script{Haps: []api.Hap{{Kind: api.HapAct, Act: api.Act{Kind: api.APower, Keeps: keeps}}}})
	s := manned()
	s.Haps = []api.Hap{{Kind: api.HapDo, Do: api.ScuDo{Kind: api.DoGet, Attrs: make([]api.Tag, api.MaxDump/12)}}}
	tooLong("tags", s)
	s.Haps = []api.Hap{{Kind: api.HapDo, Do: api.ScuDo{Kind: api.DoFind, Nodes: longNodes(t, api.MaxDump+1)}}, {Kind: api.HapAct, Act: api.Act{Kind: api.AStart}}}
	tooLong("a dump that is too long", s)
	s.Haps[0].Do.Nodes = longNodes(t, api.MaxDump)
	tooLong("a dump that is not, with what is around it", s)
	many := api.Script{Haps: make([]api.Hap, api.MaxActs+2)}
	for i := range many.Haps {
		many.Haps[i] = api.Hap{Kind: api.HapAct, Act: api.Act{Kind: api.AStart}}
	}
	if _, err := engine.Print(many); !same(err, fault(api.MaxActs+1, api.ErrEngineScript)) {
		t.Errorf("P18.2: MaxActs + 2 happenings: %v", err)
	}
	many.Haps[api.MaxActs-1].Kind = 0
	if _, err := engine.Print(many); !same(err, fault(api.MaxActs, api.ErrEngineScript)) {
		t.Errorf("P18.2: MaxActs + 2 happenings, one of them none: %v", err)
	}
	many.Haps = many.Haps[:api.MaxActs-1]
	many.Haps = append(many.Haps, many.Haps[0])
	if text, err := engine.Print(many); err != nil || strings.Count(text, "start\n") != api.MaxActs {
		t.Errorf("P18.2: MaxActs happenings: %v", err)
	}
	many.Haps[0] = api.Hap{Kind: api.HapOrder, Text: strings.Repeat("a", api.MaxDump)}
	many.Haps = append(many.Haps, many.Haps[1])
	if _, err := engine.Print(many); !same(err, fault(api.MaxActs+1, api.ErrEngineScript)) {
		t.Errorf("P18.2: too long and too many: %v", err)
	}
}

// longNodes is a well-formed data set whose dump has so many bytes, or is too long by some.
func longNodes(t *testing.T, size int) []api.Node {
	t.Helper()
	var nodes []api.Node
	total := 0
	for tag := api.Tag(0x00091001); total < size; tag++ {
		const around = len("(0009,1001) UT \"\"\n")
		n := min(api.MaxValue, size-total-around)
		if rest := size - total - around - n; rest > 0 && rest <= around {
			n -= around
		}
		nodes = append(nodes, api.Node{Tag: tag, VR: api.VRUT, Value: strings.Repeat("a", n)})
		total += around + n
	}
	text, err := dump.Print(nodes)
	if (size <= api.MaxDump) != (err == nil) || err == nil && len(text) != size {
		t.Fatalf("the test's own nodes: %d bytes, not %d: %v", len(text), size, err)
	}
	return nodes
}
