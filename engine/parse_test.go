package engine_test

import (
	"strings"
	"testing"

	"modality/api"
	"modality/dump"
	"modality/engine"
)

// readsAs: Parse tells of a text what the second reading tells.
func readsAs(t *testing.T, text string) {
	t.Helper()
	got, err := engine.Parse(text)
	want, wantErr := readAgain(text)
	if !same(got, want) || !same(err, wantErr) {
		t.Fatalf("P18.1: %q: %s, %v, not %s, %v", shown(text), shown(got), err, shown(want), wantErr)
	}
}

func TestParseLines(t *testing.T) {
	long := strings.Repeat("A", 3000)
	s := parse(t,
		" \t\r", "# server", "  # remark \"", `server "R S" 2147483647 0 1 2 3`, "caller B", `caller ""`, "scanner 15 A\"B B 2147483647 7 implicit,explicit retrieve,verify",
		"caller A", "scanner 0 \"\" \"\\\"\" 0 0 implicit perform", "",
		"connect 0", "release 15", "abort 0", "echo 0 65535", "cancel 15 0", "find 0 1 \\x {", "}",
		"create 0 2 1.2 \"ISO_IR 100\" {", "PatientID", " \"a\" # }", "}\t\r ", "set 15 3 \"\" a {", "}", "get 0 4 1.3", "get 0 4 x PatientID 0010,0010 00100010 (FFFE,e000)",
		"link 1", "data 2147483647 -", "drop 16", "order "+long, "order \"\\x0b\\xFf\\n\\r\\t\\\"\\\\é\"", "feed 00fFAa", "feedlink", "turn 0", "tick 2147483647", "room 5",
		"fuse 6", "fuse 0 dir:0 1:2 1:2 0:2147483647", "power", "power 7:8 dir:2147483647 6:0", "\tstart\r")
	if !same(s.Config, api.Config{Title: "R S", Callers: []string{"B", "", "A"}, Lines: 2147483647, Compact: 1}) || s.Disk != (api.DiskConfig{Blocks: 2, Names: 3}) {
		t.Errorf("P18.1: %+v %+v", s.Config, s.Disk)
	}
	if !same(s.Scanners, []api.ScriptScanner{
		{Line: 15, Config: api.ScuConfig{Title: `A"B`, Called: "B", Most: 2147483647, Artim: 7, Syntaxes: []api.Syntax{api.Implicit, api.Explicit}, Classes: []string{api.UIDRetrieve, api.UIDVerify}}},
		{Line: 0, Config: api.ScuConfig{Called: `"`, Syntaxes: []api.Syntax{api.Implicit}, Classes: []string{api.UIDPerform}}},
	}) {
		t.Errorf("P18.1: %+v", s.Scanners)
	}
	id := []api.Node{{Tag: api.TagPatientID, VR: api.VRLO, Value: "a"}}
	do := func(line, at int, d api.ScuDo) api.Hap { return api.Hap{Line: line, Kind: api.HapDo, At: at, Do: d} }
	act := func(line int, a api.Act) api.Hap { return api.Hap{Line: line, Kind: api.HapAct, Act: a} }
	want := []api.Hap{
		do(11, 0, api.ScuDo{Kind: api.DoConnect}), do(12, 15, api.ScuDo{Kind: api.DoRelease}), do(13, 0, api.ScuDo{Kind: api.DoAbort}),
		do(14, 0, api.ScuDo{Kind: api.DoEcho, Id: 65535}), do(15, 15, api.ScuDo{Kind: api.DoCancel}), do(16, 0, api.ScuDo{Kind: api.DoFind, Id: 1, Charset: `\x`}),
		do(18, 0, api.ScuDo{Kind: api.DoCreate, Id: 2, UID: "1.2", Charset: "ISO_IR 100", Nodes: id}), do(22, 15, api.ScuDo{Kind: api.DoSet, Id: 3, Charset: "a"}),
		do(24, 0, api.ScuDo{Kind: api.DoGet, Id: 4, UID: "1.3"}), do(25, 0, api.ScuDo{Kind: api.DoGet, Id: 4, UID: "x", Attrs: []api.Tag{0x00100020, 0x00100010, 0x00100010, 0xfffee000}}),
		act(26, api.Act{Kind: api.ALink, Line: 1}), act(27, api.Act{Kind: api.AData, Line: 2147483647}), act(28, api.Act{Kind: api.ADrop, Line: 16}),
		{Line: 29, Kind: api.HapOrder, Text: long}, {Line: 30, Kind: api.HapOrder, Text: "\x0b\xff\n\r\t\"\\é"},
		act(31, api.Act{Kind: api.AFeed, Data: []byte{0, 255, 170}}), act(32, api.Act{Kind: api.AFeedLink}), act(33, api.Act{Kind: api.ATurn}), act(34, api.Act{Kind: api.ATick, Count: 2147483647}),
		act(35, api.Act{Kind: api.ARoom, Count: 5}), act(36, api.Act{Kind: api.AFuse, Count: 6}),
		act(37, api.Act{Kind: api.AFuse, Keeps: api.PowerCut{Files: []api.DiskKeep{{Id: 1, Units: 2}, {Id: 1, Units: 2}, {Id: 0, Units: 2147483647}}}}),
		act(38, api.Act{Kind: api.APower}), act(39, api.Act{Kind: api.APower, Keeps: api.PowerCut{Files: []api.DiskKeep{{Id: 7, Units: 8}, {Id: 6}}, Dir: 2147483647}}),
		act(40, api.Act{Kind: api.AStart}),
	}
	for i := range max(len(want), len(s.Haps)) {
		if i >= len(want) || i >= len(s.Haps) || !same(s.Haps[i], want[i]) {
			t.Fatalf("P18.1: happening %d: %s, not %s", i, shown(s.Haps[i:]), shown(want[i:]))
		}
	}
}

// TestParseWords: every short text of telling bytes as the rest of a line.
func TestParseWords(t *testing.T) {
	t.Parallel()
	bytes := []string{`"`, `\`, "x", "4", "n", " ", "\t", "\r", "#", "\x7f", "\x1f", "\xff", "é"}
	var grow func(text string, left int)
	grow = func(text string, left int) {
		readsAs(t, head+"\ncaller "+text)
		if left > 0 {
			for _, b := range bytes {
				grow(text+b, left-1)
			}
		}
	}
	grow("", 4)
	for _, b := range bytes {
		for c := range 256 {
			readsAs(t, head+"\ncaller \"a"+string([]byte{byte(c)})+`"`+b)
			readsAs(t, head+"\ncaller \"\\"+string([]byte{byte(c)})+b+`4"`)
			readsAs(t, head+"\ncaller \"\\x"+string([]byte{byte(c)})+b+`"`)
			readsAs(t, head+"\ncaller \"\\x"+b+string([]byte{byte(c)})+`"`)
			readsAs(t, head+"\ncaller"+string([]byte{byte(c)})+b)
			readsAs(t, string([]byte{byte(c)})+b+head)
		}
	}
}

// candidates are words of which each fits some places of lines.
func candidates() []string {
	return []string{"0", "1", "5", "9", "15", "16", "17", "10000", "65535", "65536", "2147483647", "2147483648", "4294967296", "99999999999999999999999", "00", "01", "+1", "-1", "1.", "1_0", "0x1", "١",
		"-", "--", "0a", "0A", "aF09", "0", "0aF", "0g", "g0", "0 a", "explicit", "implicit", "explicit,implicit", "implicit,explicit", "explicit,explicit", "explicit,", ",explicit", "Explicit", "explicit,implicit,explicit",
		"verify", "worklist", "perform", "retrieve", "verify,worklist", "retrieve,perform,worklist,verify", "verify,verify", "verify,perform,verify", "verify,", ",", "verify,,perform", "verify,explicit", "Verify",
		"(0010,0010)", "0010,0010", "00100010", "0010,001", "PatientID", "patientid", "Nothing", "(0000,0000)", "FFFFFFFF",
		"1:2", "0:0", "dir:0", "dir:3", "dir:", ":1", "1:", "1", "1:2:3", "01:2", "1:02", "2147483647:2147483647", "2147483648:0", "0:2147483648", "Dir:1", "dir:-1", "dir:dir", "1:dir", "-1:1", "a:1", "dir",
		"{", "}", "{}", "{{", "#", "RIS", `a"`, `\x41`, "é", "\x00", "server", "start"}
}

// TestParseColumns: every candidate, quoted and not, in every place of every line; a word too few, and one too many.
func TestParseColumns(t *testing.T) {
	t.Parallel()
	fitting := map[string]string{"T": "x", "N": "0", "I": "7", "H": "00", "S": "implicit", "C": "verify", "G": "PatientID", "K": "1:2", "{": "{"}
	for _, form := range strings.Split(strings.TrimSpace(lineForms), "\n") {
		f := strings.Fields(form)
		words := []string{f[0]}
		for _, l := range f[1:] {
			words = append(words, fitting[l])
		}
		if actUsesLine[f[0]] {
			words[1] = "9"
		}
		for _, around := range [][2]string{{"", ""}, {head + "\n", "\n}"}, {joined(head, scanner), ""}, {joined(head, scanner), "\nPatientID \"x\"\n}\nturn 1"}} {
			for place := 0; place <= len(words); place++ {
				for _, c := range candidates() {
					for _, w := range []string{c, `"` + c + `"`} {
						line := append(append([]string{}, words[:place]...), w)
						readsAs(t, around[0]+strings.Join(append(line, words[min(place+1, len(words)):]...), " ")+around[1])
						readsAs(t, around[0]+strings.Join(append(line, words[place:]...), " ")+around[1])
					}
				}
				readsAs(t, around[0]+strings.Join(words[:place], " ")+around[1])
			}
		}
	}
}

// TestParseKeeps: lists of keeps and of tags.
func TestParseKeeps(t *testing.T) {
	keeps := []string{"dir:0", "dir:1", "1:0", "1:1", "2:9", "x", "", `"1:0"`}
	for _, a := range keeps {
		for _, b := range keeps {
			for _, c := range keeps {
				for _, first := range []string{"power ", "fuse ", "fuse 3 "} {
					readsAs(t, joined(head, first+a+" "+b+" "+c))
				}
			}
		}
	}
	tags := []string{"(0010,0010)", "PatientID", "00100010", "x", "", `"PatientID"`}
	for _, a := range tags {
		for _, b := range tags {
			readsAs(t, joined(head, scanner, "get 0 1 1.2 "+a+" "+b))
		}
	}
}

// TestParseReasons: each reason alone, and the first of several.
func TestParseReasons(t *testing.T) {
	late := []string{head, scanner, "start"}
	notDump := fault(4, &api.Fault{Layer: "dump", At: 2, Err: api.ErrDumpTag})
	for _, c := range []struct {
		what  string
		lines []string
		want  error
	}{
		{"a word ahead of a line", []string{`go "`}, fault(1, api.ErrEngineWord)},
		{"a word in the first line", []string{"#", `server "a`}, fault(2, api.ErrEngineWord)},
		{"an earlier line's", []string{head, "turn", `caller "a`}, fault(2, api.ErrEngineLine)},
		{"a word behind a fault", []string{head, `turn 1 2 "a"b`}, fault(2, api.ErrEngineWord)},
		{"a remark has no words", []string{head, ` # "`}, nil},
		{"a remark behind words", []string{head, "start # now"}, fault(2, api.ErrEngineLine)},
		{"the server is second", []string{scanner, head}, fault(1, api.ErrEngineLine)},
		{"two servers", []string{head, "#", head}, fault(3, api.ErrEngineLine)},
		{"a server behind happenings", append(late, head), fault(4, api.ErrEngineLine)},
		{"a line ahead of a scanner", []string{head, "scanner 16 A B 0 1 implicit verify,x"}, fault(2, api.ErrEngineLine)},
		{"line 16", []string{head, "scanner 16 A B 0 1 implicit verify"}, fault(2, api.ErrEngineScanner)},
		{"a scanner twice", []string{head, scanner, scanner}, fault(3, api.ErrEngineScanner)},
		{"a scanner too late", append(late, "scanner 1 A B 0 1 implicit verify"), fault(4, api.ErrEngineScanner)},
		{"a caller too late", append(late, "caller A"), fault(4, api.ErrEngineScanner)},
		{"a caller that is none, too late", append(late, "caller A B"), fault(4, api.ErrEngineLine)},
		{"a caller behind a scanner", []string{head, scanner, "caller A"}, nil},
		{"a caller behind a remark", []string{head, "#", "", "caller A"}, nil},
		{"no scanner", []string{head, "connect 0"}, fault(2, api.ErrEngineScanner)},
		{"no scanner there", append(late, "echo 1 1"), fault(4, api.ErrEngineScanner)},
		{"no scanner far away", append(late, "abort 2147483647"), fault(4, api.ErrEngineScanner)},
		{"no ID and no scanner", append(late, "echo 1 65536"), fault(4, api.ErrEngineLine)},
		{"a link of a scanner", append(late, "link 0"), fault(4, api.ErrEngineScanner)},
		{"data of a scanner", append(late, "data 0 -"), fault(4, api.ErrEngineScanner)},
		{"a drop of a scanner", append(late, "drop 0"), fault(4, api.ErrEngineScanner)},
		{"a link of no line", append(late, "link 16"), nil},
		{"no scanner and no dump", append(late, "find 1 1 a {"), fault(4, api.ErrEngineScanner)},
		{"an open dump", append(late, "find 0 1 a {"), fault(4, api.ErrEngineDump)},
		{"a dump that ends in a blank", append(late, "find 0 1 a {", " }", "start"), fault(4, api.ErrEngineDump)},
		{"a dump that ends in a word", append(late, "set 0 1 a a {", "} start"), fault(4, api.ErrEngineDump)},
		{"a dump that is none", append(late, "create 0 1 a a {", "  Nothing", "}", `"`), notDump},
		{"a brace of the dump's own", append(late, "find 0 1 a {", "(0040,0100) {", " }", "}"), nil},
		{"a brace of the dump's own at the beginning", append(late, "find 0 1 a {", "(0040,0100) {", "}", "}"), fault(4, &api.Fault{Layer: "dump", At: 14, Err: api.ErrDumpForm})},
		{"two braces", append(late, "find 0 1 a {", "(0040,0100) { item {", "}}", "}"), nil},
		{"no brace", append(late, "find 0 1 a", "}"), fault(4, api.ErrEngineLine)},
		{"a quoted brace", append(late, `find 0 1 a "{"`, "}"), fault(4, api.ErrEngineLine)},
		{"a brace alone", append(late, "}"), fault(4, api.ErrEngineLine)},
		{"lines behind a dump", append(late, "find 0 1 a {", "", "# }", "}", "x"), fault(8, api.ErrEngineLine)},
	} {
		for _, end := range []string{"", "\n"} {
			text := strings.Join(c.lines, "\n") + end
			s, err := engine.Parse(text)
			if !same(err, c.want) {
				t.Errorf("P18.1: %s: %v, not %v", c.what, err, c.want)
			}
			if err != nil && !same(s, api.Script{}) {
				t.Errorf("P18.1: %s: a script beside a fault", c.what)
			}
			readsAs(t, text)
		}
	}
}

// TestParseNothing: texts without a server.
func TestParseNothing(t *testing.T) {
	for text, lines := range map[string]int{"": 1, " ": 1, "\n": 1, "\n\n": 2, "\n ": 2, "#": 1, "#\n": 1, "#\n#": 2, "\n\n#\n\n": 4} {
		if _, err := engine.Parse(text); !same(err, fault(lines, api.ErrEngineLine)) {
			t.Errorf("P18.1: %q: %v", text, err)
		}
		readsAs(t, text)
	}
}

func TestParseLimits(t *testing.T) {
	fill := func(size int) string { return head + "\n" + strings.Repeat("#", size-len(head)-1) }
	if _, err := engine.Parse(fill(api.MaxDump)); err != nil {
		t.Errorf("P18.1: at the limit: %v", err)
	}
	for _, text := range []string{fill(api.MaxDump + 1), strings.Repeat("\"", api.MaxDump+1)} {
		if _, err := engine.Parse(text); !same(err, fault(0, api.ErrEngineLong)) {
			t.Errorf("P18.1: one more: %v", err)
		}
	}
	full := head + "\n" + scanner + "\n#\n" + strings.Repeat("start\n", api.MaxActs)
	if s, err := engine.Parse(full + "# more"); err != nil || len(s.Haps) != api.MaxActs {
		t.Errorf("P18.1: MaxActs happenings: %v", err)
	}
	for more, want := range map[string]error{
		"start":                        api.ErrEngineMany,
		"find 0 1 a {":                 api.ErrEngineMany,
		"find 0 1 a {\nNothing\n}":     api.ErrEngineMany,
		"connect 1":                    api.ErrEngineScanner,
		"scanner 1 A B 0 1 implicit x": api.ErrEngineLine,
		"caller A":                     api.ErrEngineScanner,
		"start \"":                     api.ErrEngineWord,
	} {
		if _, err := engine.Parse(full + more); !same(err, fault(api.MaxActs+4, want)) {
			t.Errorf("P18.1: happening MaxActs + 1, %q: %v", more, err)
		}
		readsAs(t, full+more)
	}
}

// TestParseDumps: what stands between the braces goes to layer 7 as it is, each line with its line feed.
func TestParseDumps(t *testing.T) {
	for _, body := range []string{"", "\n", "  \n\n", "# a\n", "PatientID \"x\"\n", "PatientID\r\n\"x\"\n", "Rows 1 Rows 1\n", "Rows \"\n", "(0040,0100){item{\n }}\n", "PatientID \"a\n", "\x00\n", "\"\n\"\n", "} }\n", "}}\n", "}#\n", "} #\n"} {
		nodes, err := dump.Parse(body)
		s, got := engine.Parse(joined(head, scanner, "#") + "find 0 1 a {\n" + body + "}\nstart")
		if err != nil {
			if !same(got, fault(4, err)) {
				t.Errorf("P18.1: %q: %v, not %v", body, got, err)
			}
			continue
		}
		if got != nil || len(s.Haps) != 2 || !same(s.Haps[0].Do.Nodes, nodes) || s.Haps[1].Line != 5+strings.Count(body, "\n")+1 {
			t.Errorf("P18.1: %q: %v %s", body, got, shown(s.Haps))
		}
	}
}
