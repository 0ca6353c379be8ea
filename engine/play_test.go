package engine_test

import (
	"fmt"
	"strings"
	"testing"

	"modality/api"
	"modality/engine"
	"modality/feed"
)

// TestExamples: the document's.
func TestExamples(t *testing.T) {
	day := []string{head, "scanner 0 CT1 RIS 0 10 explicit,implicit verify", "connect 0", "echo 0 7", "release 0"}
	reports(t, "example 1", day, "3: scanner 0 is told accepted 1:verify:explicit", "4: scanner 0 answer 7 0000", "5: scanner 0 is told released", "up", `control ""`)
	reports(t, "example 2", []string{head, "scanner 0 CT1 RIS 0 10 explicit,implicit verify", "echo 0 7", "connect 0"},
		"3: refused scu 0 errno 341", "4: scanner 0 is told accepted 1:verify:explicit", "up", "line 0 sta 6 queue 0 owed 0", `control ""`)
	if got := engine.Tell(""); got != "refused engine 1 errno 361\n" {
		t.Errorf("example 3: %q", got)
	}
	reports(t, "example 4", []string{head, "turn 100001"}, "2: refused broker 3 errno 322", "up", `control ""`)
}

// newOrder is an order's line: these steps are new.
func newOrder(control string, ids ...string) string {
	o := api.Order{Control: control, Verb: api.OrderNew}
	for _, id := range ids {
		o.Steps = append(o.Steps, api.Step{ID: id, Procedure: "P", Study: "1.2", PatientName: "Müller^Jo", PatientID: "7", Modality: "CT", Station: "CT1", Date: "20260701", Time: "083000", Status: api.StepScheduled})
	}
	text, err := feed.Print(o)
	if err != nil {
		panic(err)
	}
	return "order " + quoted(text)
}

// ackLine is what is told of an acknowledgement.
func ackLine(line int, code, control, words string) string {
	return fmt.Sprintf(`%d: ack "\x0bMSH|^~\\&|MODALITY||||||ACK|%s|P|2.3.1\rMSA|%s|%s|%s\r\x1c\r"`, line, control, code, control, words)
}

func stepLine(id string, status int) string {
	return fmt.Sprintf(`step "%s" status %d date 20260701 time 083000 modality "CT" station "CT1" patient "Müller^Jo"`, id, status)
}

// withSet is a line with a data set behind it.
func withSet(line string, nodes []api.Node) string {
	return line + " {\n" + strings.TrimSuffix(setLines(nodes), "\n")
}

// TestPlayDay: a whole day, from the order to the end of the performed step.
func TestPlayDay(t *testing.T) {
	keys := list(el(api.TagPatientName, "m*"), seq(api.TagSteps, holding(el(api.TagStepID, ""))))
	lines := strings.Split(strings.Join([]string{
		head,
		scanner,
		"scanner 5 MR1 RIS 64 10 implicit perform,worklist",
		newOrder("M1", "A1", "A2"),
		newOrder("M1", "A9"),
		"connect 5", // line 6
		"connect 0",
		withSet("find 5 1 ISO_IR\\x20", keys),  // line 8
		withSet(`find 5 1 "ISO_IR 100"`, keys), // line 16
		"echo 0 65535",                         // line 24
		"turn 1",
		"turn 1",
		"turn 1",
		withSet(`create 0 2 1.9 ""`, performed("A1", "X", "")), // line 28
	}, "\n"), "\n")
	at := len(lines)
	lines = append(lines, strings.Split(strings.Join([]string{
		withSet(`set 5 3 1.9 ""`, list(el(api.TagDoneStatus, "COMPLETED"))),
		withSet(`set 5 3 1.9 ""`, list(el(api.TagModality, "MR"))),
		withSet(`set 5 3 1.9 ""`, ended("COMPLETED")),
		withSet(`set 5 3 1.9 ""`, ended("COMPLETED")),
	}, "\n"), "\n")...)
	end := len(lines)
	lines = append(lines, "get 0 4 1.9 (0040,0252) 0010,0010", "get 0 5 1.9 StudyInstanceUID", "get 0 6 1.8", "get 0 7 1.9 IssuerOfPatientID", "release 5", "abort 0")
	sets := strings.Count(setLines(ended("")), "\n") + 1
	answer := func(id string) []string {
		return []string{`  (0010,0010) PN "Müller^Jo"`, "  (0040,0100) SQ {", "    item {", `      (0040,0009) SH "` + id + `"`, "    }", "  }", "}"}
	}
	want := []string{ackLine(4, "AA", "M1", ""), ackLine(5, "AA", "M1", ""), "6: scanner 5 is told accepted 1:perform:implicit 3:worklist:implicit",
		"7: scanner 0 is told accepted 1:verify:explicit 3:worklist:explicit 5:perform:explicit 7:retrieve:explicit",
		"8: refused scu 1 charset 4 errno 80", "24: scanner 0 answer 65535 0000", "25: scanner 5 answer 1 FF00 {"}
	want = append(want, answer("A1")...)
	want = append(want, "26: scanner 5 answer 1 FF00 {")
	want = append(want, answer("A2")...)
	want = append(want, "27: scanner 5 answer 1 0000", "28: scanner 0 answer 2 0000",
		fmt.Sprintf("%d: scanner 5 answer 3 0121 (0040,0250) (0040,0251) (0040,0340)", at+1), fmt.Sprintf("%d: scanner 5 answer 3 0105 (0008,0060)", at+4),
		fmt.Sprintf("%d: scanner 5 answer 3 0000", at+7), fmt.Sprintf("%d: scanner 5 answer 3 0110 error A710", at+7+sets),
		fmt.Sprintf("%d: scanner 0 answer 4 0000 {", end+1), `  (0010,0010) PN "X"`, `  (0040,0252) CS "COMPLETED"`, "}",
		fmt.Sprintf("%d: scanner 0 answer 5 0105 (0020,000D)", end+2), fmt.Sprintf("%d: scanner 0 answer 6 0112", end+3),
		fmt.Sprintf("%d: scanner 0 answer 7 0000 {", end+4), "}", fmt.Sprintf("%d: scanner 5 is told released", end+5),
		"up", `control "M1"`, stepLine("A1", 3), stepLine("A2", 1), "performed 1.9 state 2 nodes 40")
	reports(t, "a day", lines, want...)
}

// TestPlayServer: what comes out on lines without a scanner, of the feed, and of the power.
func TestPlayServer(t *testing.T) {
	reports(t, "a line alone", []string{head, "link 1", "link 1", "data 1 0900", "data 1 00000000", "tick 9", "tick 1", "drop 1", "link 15", "link 16", "data 17 -"},
		"5: line 1 sends 07000000000400000000", "7: line 1 shut", "10: refused broker 2 errno 322", "11: refused broker 2 errno 322", "up", "line 15 sta 2 queue 0 owed 0", `control ""`)
	reports(t, "the feed", []string{head, "feed 0b", "feed 41", "feed 1c0d", "feed 0b41", "feedlink", "feed 1c0d", `order ""`, `order "x\n"`, newOrder("M7", "B"), `order "\x1c\r\x0b"`, "feed 1c0d"},
		ackLine(4, "AR", "", "no header"), ackLine(8, "AR", "", "no header"), ackLine(9, "AR", "", "no header"), ackLine(10, "AA", "M7", ""), ackLine(11, "AR", "", "no header"), ackLine(11, "AR", "", "no header"),
		"up", `control "M7"`, stepLine("B", 1))
	reports(t, "the power", []string{head, "start", "power 1:2 dir:1", "power", "link 0", "turn 1", "tick 1", "start", "start", "fuse 1", newOrder("M1", "A"), newOrder("M2", "A"), "start"},
		"3: down", "8: up", "11: down", "13: up", "up", `control ""`)
	reports(t, "no room", []string{"server RIS 1 1 1 2 2", "room 0", newOrder("M1", "A"), "room 2147483647", "fuse 2147483647 1:1"},
		ackLine(3, "AA", "M1", ""), "4: refused broker 3 errno 322", "5: refused broker 3 errno 322", "up", `control "M1"`, stepLine("A", 1))
	reports(t, "down in the end", []string{head, newOrder("M1", "A"), "link 3", "power"}, ackLine(2, "AA", "M1", ""), "4: down", "down")
}

// TestPlayScanners: what scanners are told.
func TestPlayScanners(t *testing.T) {
	reports(t, "no server", []string{head, scanner, "power", "connect 0", "abort 0", "release 0", "start", "connect 0", "connect 0", "abort 0", "abort 0"},
		"3: down", "4: scanner 0 is told broken", "5: refused scu 0 errno 341", "6: refused scu 0 errno 341", "7: up",
		"8: scanner 0 is told accepted 1:verify:explicit 3:worklist:explicit 5:perform:explicit 7:retrieve:explicit", "9: refused scu 0 errno 341", "11: refused scu 0 errno 341", "up", `control ""`)
	reports(t, "rejected", []string{"server RIS 1 10 20 2000 8", "caller CT1", "caller CT2", "scanner 2 CT3 RIS 0 1 implicit verify", "scanner 1 CT1 RIX 0 1 implicit verify", "scanner 7 CT1 RIS 0 1 implicit verify", "scanner 4 CT2 RIS 0 1 implicit verify",
		"connect 2", "connect 1", "connect 7", "connect 4", "release 7", "connect 4"},
		"8: scanner 2 is told rejected 1 1 3", "9: scanner 1 is told rejected 1 1 7", "10: scanner 7 is told accepted 1:verify:implicit", "11: scanner 4 is told rejected 2 3 2", "12: scanner 7 is told released", "13: scanner 4 is told accepted 1:verify:implicit",
		"up", "line 4 sta 6 queue 0 owed 0", `control ""`)
	three := []string{head, "scanner 9 C RIS 0 5 implicit verify", "scanner 0 A RIS 0 5 explicit verify", "scanner 3 B RIS 0 5 implicit,explicit verify", "connect 3", "connect 9", "connect 0"}
	accepted := []string{"5: scanner 3 is told accepted 1:verify:implicit", "6: scanner 9 is told accepted 1:verify:implicit", "7: scanner 0 is told accepted 1:verify:explicit"}
	reports(t, "broken in the order of lines", append(three, "power", "connect 9"), append(accepted, "8: down", "8: scanner 0 is told broken", "8: scanner 3 is told broken", "8: scanner 9 is told broken", "9: scanner 9 is told broken", "down")...)
	finds := []string{head, scanner, "connect 0"}
	for id := range 10 {
		finds = append(finds, withSet(fmt.Sprintf("find 0 %d \"\"", id), nil))
	}
	accept := "3: scanner 0 is told accepted 1:verify:explicit 3:worklist:explicit 5:perform:explicit 7:retrieve:explicit"
	reports(t, "aborted", finds, accept, "22: scanner 0 is told aborted 0 0", "up", `control ""`)
	finds = finds[:len(finds)-1]
	reports(t, "a queue", append(finds, "cancel 0 3", "release 0", "turn 3", "power"), accept, "24: scanner 0 answer 0 0000", "24: scanner 0 answer 1 0000", "24: scanner 0 answer 2 0000", "24: scanner 0 answer 3 FE00", "25: down", "25: scanner 0 is told broken", "down")
	reports(t, "a queue in the end", append(finds, "link 1", "turn 1"), accept, "23: scanner 0 answer 0 0000", "up", "line 0 sta 6 queue 7 owed 1801", "line 1 sta 2 queue 0 owed 0", `control ""`)
	reports(t, "a release that waits", append(finds, "release 0", "turn 8", "echo 0 1", "tick 1000", "turn 1", "tick 1"), accept,
		"23: scanner 0 answer 0 0000", "23: scanner 0 answer 1 0000", "23: scanner 0 answer 2 0000", "23: scanner 0 answer 3 0000", "23: scanner 0 answer 4 0000", "23: scanner 0 answer 5 0000", "23: scanner 0 answer 6 0000", "23: scanner 0 answer 7 0000",
		"24: refused scu 0 errno 341", "26: scanner 0 answer 8 0000", "26: scanner 0 is told released", "up", `control ""`)
}

// TestPlayOrder: what comes out is told as it comes out, and carried behind what came out ahead of it.
func TestPlayOrder(t *testing.T) {
	create := withSet(`create 0 1 1.9 ""`, performed("A", "X", ""))
	accept := "3: scanner 0 is told accepted 1:verify:explicit 3:worklist:explicit 5:perform:explicit 7:retrieve:explicit"
	reports(t, "in flight", []string{head, scanner, "connect 0", "fuse 1", create, "start", "connect 0", "get 0 1 1.9"},
		accept, "5: down", "5: scanner 0 is told broken", fmt.Sprintf("%d: up", 6+strings.Count(create, "\n")), strings.Replace(accept, "3:", fmt.Sprintf("%d:", 7+strings.Count(create, "\n")), 1),
		fmt.Sprintf("%d: scanner 0 answer 1 0112", 8+strings.Count(create, "\n")), "up", "line 0 sta 6 queue 0 owed 0", `control ""`)
	base := play(t, "server RIS 4 10 1 2000 8", scanner, "connect 0", "fuse 2", create)
	want := joined(accept, "5: down", "5: scanner 0 answer 1 0000", "5: scanner 0 is told broken", "down")
	if base != want {
		t.Errorf("P18.3: the power goes behind the answer, in the compaction:\n%s\nnot\n%s", base, want)
	}
}

// TestPlayTicks: ticks of all timers, one by one.
func TestPlayTicks(t *testing.T) {
	lines := []string{"server RIS 16 1000 20 2000 8", "scanner 3 B RIS 0 5 implicit,explicit verify", "connect 3", "link 1", "tick 600", "link 2", "tick 399", "tick 0", "tick 1", "link 1", "tick 100000", "link 1", "tick 100001", "tick 2147483647", "power", "tick 7"}
	reports(t, "ticks", lines, "3: scanner 3 is told accepted 1:verify:implicit", "9: line 1 shut", "11: line 2 shut", "11: line 1 shut", "13: refused broker 3 errno 322", "14: refused broker 3 errno 322", "15: down", "15: scanner 3 is told broken", "down")
}

// TestPlayRefuses: what Play refuses, and in which order.
func TestPlayRefuses(t *testing.T) {
	wrong := `scanner 0 "" RIS 0 1 implicit verify`
	for _, c := range []struct{ text, want string }{
		{joined(head, "go"), "refused engine 2 errno 361"},
		{joined("server RIS 0 10 20 0 8", wrong, "go"), "refused engine 3 errno 361"},
		{joined("", "#", "server RIS 0 10 20 0 8", wrong), "refused engine 3 disk 0 errno 20"},
		{joined("server RIS 4 10 20 8 65", wrong), "refused engine 1 disk 1 errno 20"},
		{joined("", "server RIS 0 10 20 8 8", wrong), "refused engine 2 broker 3 errno 320"},
		{joined("server RIS 4 10 20 8 8", "caller \" A\""), "refused engine 1 broker 2 errno 320"},
		{joined("server RIS 4 10 20 8 8", wrong), "refused engine 0 scu 0 errno 340"},
		{joined("server RIS 4 10 20 8 8", "scanner 1 A B 1 0 implicit verify", wrong), "refused engine 0 scu 4 errno 340"},
		{joined("server RIS 4 10 20 8 8", "scanner 1 A B 64 0 implicit verify", wrong), "refused engine 0 scu 5 errno 340"},
		{joined("server RIS 4 10 20 8 1"), "refused engine 1 broker 1 store 1 journal 4 errno 48"},
		{joined(head, scanner, "find 0 1 a {", "Rows 1 Rows 1", "}"), "refused engine 3 dump 7 errno 145"},
		{strings.Repeat("#", api.MaxDump+1), "refused engine 0 errno 360"},
	} {
		if got := engine.Tell(c.text); got != c.want+"\n" {
			t.Errorf("P18.3, P18.5: %.100q: %q, not %q", c.text, got, c.want)
		}
		report, err := engine.Play(c.text)
		if report != "" || err == nil || refusedAs(err) != c.want {
			t.Errorf("P18.3: %.100q: %q, %v", c.text, report, err)
		}
	}
}

// TestPlayMany: as many happenings as may be.
func TestPlayMany(t *testing.T) {
	text := joined("server RIS 16 1 20 2000 8", scanner, "connect 0") + strings.Repeat("tick 100000\nturn 100000\nlink 1\n", (api.MaxActs-1)/3)
	report, err := engine.Play(text)
	if err != nil || strings.Count(report, ": line 1 shut\n") != (api.MaxActs-1)/3-1 {
		t.Errorf("P18.3: %v, %.300q", err, report)
	}
}
