package engine_test

import (
	"fmt"
	"math/rand/v2"
	"regexp"
	"strings"
	"testing"

	"modality/api"
	"modality/dataset"
	"modality/dimse"
	"modality/engine"
	"modality/feed"
	"modality/pdu"
)

// day makes the text of a random day: a server, scanners on some of its lines, and what happens.
type day struct {
	r     *rand.Rand
	lines []string
	at    []int // the scanners' lines
}

func (d *day) add(format string, args ...any) {
	d.lines = append(d.lines, fmt.Sprintf(format, args...))
}

func randomDay(r *rand.Rand, happenings int) string {
	d := &day{r: r}
	d.remark()
	d.add("server RIS %d %d %d %d %d", one(r, 1, 2, 4, 16), one(r, 1, 3, 1000), one(r, 1, 3, 1000), one(r, 6, 20, 2000, 2000, 2000), one(r, 2, 8))
	if r.IntN(30) == 0 {
		d.lines[len(d.lines)-1] = one(r, "server RIS 1 1 1 1 2", "server RIS 1 1 1 1 1", "server RIS 1 1 1 0 1", "server \" A\" 1 1 1 2000 8", "server RIS 1 1001 1 9 9")
	}
	if r.IntN(6) == 0 {
		d.add("caller CT1")
		d.add("caller MR")
	}
	for n := range 16 {
		if r.IntN(5) == 0 {
			d.remark()
			d.at = append(d.at, n)
			d.add("scanner %d %s %s %d %d %s %s", n, one(r, "CT1", "MR"), one(r, "RIS", "RIS", "RIS", "RIS", "RIS", "X"), one(r, 0, 64, 1000, 1<<20), one(r, 1, 5),
				one(r, "explicit", "implicit", "explicit,implicit", "implicit,explicit"), one(r, "verify,worklist,perform,retrieve", "retrieve,perform,verify,worklist", "verify,worklist,perform,retrieve", "worklist"))
		}
	}
	if len(d.at) > 0 && r.IntN(30) == 0 {
		line := one(r, strings.Fields(d.lines[len(d.lines)-1])[1], "x")
		d.lines[len(d.lines)-1] = "scanner " + line + one(r, ` "" RIS 0 5`, " CT1 RIS 63 5", " CT1 RIS 0 1001") + " implicit verify"
	}
	r.Shuffle(len(d.at), func(i, j int) { d.at[i], d.at[j] = d.at[j], d.at[i] })
	for _, n := range d.at {
		if r.IntN(4) > 0 {
			d.add("connect %d", n)
		}
	}
	for range happenings {
		d.remark()
		d.happening()
	}
	return strings.Join(d.lines, "\n") + one(r, "", "\n")
}

func (d *day) remark() {
	if d.r.IntN(8) == 0 {
		d.add("%s", one(d.r, "", "# \"", " \t\r", "  #"))
	}
}

func (d *day) happening() {
	r := d.r
	if len(d.at) > 0 && r.IntN(2) == 0 {
		d.scanner(one(r, d.at...))
		return
	}
	switch r.IntN(12) {
	case 0, 1:
		d.order()
	case 2, 3, 4:
		d.add("turn %d", one(r, 0, 1, 1, 2, 3, 10, 100000, 100001))
	case 5:
		d.add("tick %d", one(r, 0, 1, 1, 2, 3, 1000, 100001, 2147483647))
	case 6, 7, 8:
		d.line()
	case 9:
		d.add("%s", one(r, "feedlink", "feed -", "feed 0b414243", "feed 1c0d", "room 0", "room 5", "room 2000", "room 2147483647"))
	case 10:
		d.add("fuse %d%s", one(r, 0, 1, 2, 3, 5, 9, 2147483647), d.keeps())
	default:
		d.add("%s", one(r, "power"+d.keeps(), "start", "start"))
	}
	if r.IntN(4) == 0 {
		d.add("start")
		for _, n := range d.at {
			d.add("connect %d", n)
		}
	}
}

func (d *day) keeps() string {
	text := ""
	for range d.r.IntN(4) {
		text += fmt.Sprintf(" %d:%d", d.r.IntN(6), one(d.r, 0, 1, 3, 20, 1000))
	}
	return text + one(d.r, "", "", " dir:0", " dir:1", " dir:9")
}

func (d *day) order() {
	r := d.r
	o := api.Order{Control: fmt.Sprint("M", r.IntN(40)), Verb: 1 + r.IntN(3)}
	id := fmt.Sprint("S", r.IntN(6))
	if o.Verb == api.OrderCancel {
		o.IDs = []string{id}
	} else {
		o.Steps = []api.Step{{ID: id, Procedure: "P", Study: "1.2", PatientName: one(r, "Doe^Jane", "Müller", "\"X\""), PatientID: "7", Modality: one(r, "CT", "MR"), Station: "CT1", Date: "20260701", Time: "083000", Status: api.StepScheduled}}
	}
	text, err := feed.Print(o)
	if err != nil {
		panic(err)
	}
	switch r.IntN(6) {
	case 0:
		text = text[:r.IntN(len(text))]
	case 1:
		d.add("feed %x", feed.Frame(text))
		return
	case 2:
		b := feed.Frame(text)
		cut := r.IntN(len(b))
		d.add("feed %s", hexWord(b[:cut]))
		d.add("feed %s", hexWord(b[cut:]))
		return
	}
	d.add("order %s", quoted(text))
}

// scanner lets a scanner's user do something.
func (d *day) scanner(n int) {
	r := d.r
	id := r.IntN(12)
	uid := one(r, "1.1", "1.2", "1.3", "\"\"")
	set := one(r, `""`, `"ISO_IR 100"`, `"ISO_IR 192"`, `"\\ISO 2022 IR 101"`, "ISO_IR", "x")
	step := fmt.Sprint("S", r.IntN(6))
	switch r.IntN(18) {
	case 16, 17:
		d.life(n, 20+10*r.IntN(9), uid)
	case 0, 1:
		d.add("connect %d", n)
	case 2:
		d.add("%s %d", one(r, "release", "release", "abort"), n)
	case 3, 4:
		d.add("echo %d %d", n, id)
	case 5, 6, 7, 8:
		for range one(r, 1, 1, 1, 11) {
			keys := list(el(api.TagPatientName, one(r, "", "", "*", "d*", "Mü*")), one(r, nil, nil, nil, list(el(api.TagBirthDate, "x"))), seq(api.TagSteps, holding(el(api.TagStepID, ""), el(api.TagStepStatus, ""))), one(r, nil, nil, list(el(api.TagComments, "y"))))
			d.add("find %d %d %s {\n%s", n, id, set, strings.TrimSuffix(setLines(keys), "\n"))
			if r.IntN(3) == 0 {
				d.add("cancel %d %d", n, id)
			}
			id++
		}
	case 9:
		d.add("cancel %d %d", n, id)
	case 10, 11, 12:
		nodes := one(r, performed(step, one(r, "Doe", "Müller"), ""), performed(step, "X", "größer\n"), performed(step, "x", "")[1:])
		d.add("create %d %d %s %s {\n%s", n, id, uid, set, strings.TrimSuffix(setLines(nodes), "\n"))
	case 13, 14:
		nodes := one(r, ended("COMPLETED"), ended("DISCONTINUED"), list(el(api.TagComments, "ü")), list(el(api.TagModality, "MR")), list(el(api.TagDoneStatus, "COMPLETED")), nil)
		d.add("set %d %d %s %s {\n%s", n, id, uid, set, strings.TrimSuffix(setLines(nodes), "\n"))
	default:
		d.add("get %d %d %s%s", n, id, uid, one(r, "", " PatientID", " (0040,0252) 0010,0010", " StudyInstanceUID", " IssuerOfPatientID"))
	}
}

// life lets a scanner's user begin and end a performed step, and go on with it.
func (d *day) life(n, id int, uid string) {
	step := fmt.Sprint("S", d.r.IntN(6))
	d.add("create %d %d %s \"\" {\n%s", n, id, uid, strings.TrimSuffix(setLines(performed(step, "X", "")), "\n"))
	for i := range 3 {
		d.add("set %d %d %s \"\" {\n%s", n, id+1+i, uid, strings.TrimSuffix(setLines(ended(one(d.r, "COMPLETED", "DISCONTINUED"))), "\n"))
	}
	d.add("get %d %d %s PerformedProcedureStepStatus", n, id+5, uid)
}

// line lets bytes come on a line on which the script itself is the other side.
func (d *day) line() {
	r := d.r
	n := r.IntN(17)
	for _, x := range d.at {
		if x == n {
			return
		}
	}
	ask := api.Pdu{Kind: api.PduRQ, Assoc: api.Associate{Version: 1, Called: "RIS", Calling: "MR", App: api.UIDContext,
		Contexts: []api.PresContext{{Id: 1, Class: api.UIDVerify, Syntaxes: []string{api.UIDImplicit}}, {Id: 3, Class: api.UIDWorklist, Syntaxes: []string{api.UIDImplicit}}}, User: api.UserInfo{HasMax: true, MaxLength: 128}}}
	keys, _ := dataset.Encode(list(el(api.TagPatientName, "")), api.Implicit)
	found, _ := dimse.Cut(api.Message{Context: 3, Cmd: api.Cmd{Field: api.CFind, Class: api.UIDWorklist, Id: uint16(r.IntN(4)), HasData: true}, Data: keys}, 16384)
	pdus := append([]api.Pdu{ask, ask, ask, {Kind: api.PduReleaseRQ}, {Kind: api.PduAbort}}, found...)
	b, _ := pdu.Encode(one(r, pdus...))
	switch r.IntN(8) {
	case 0:
		d.add("data %d %s", n, one(r, "-", "0900", "00000000", "040000000000"))
	case 1:
		d.add("drop %d", n)
	case 2, 3:
		d.add("link %d", n)
	case 4:
		cut := r.IntN(len(b))
		d.add("data %d %s", n, hexWord(b[:cut]))
		d.add("data %d %s", n, hexWord(b[cut:]))
	case 5:
		d.add("link %d", n)
		rq, _ := pdu.Encode(ask)
		d.add("data %d %x", n, rq)
		for _, p := range found {
			q, _ := pdu.Encode(p)
			d.add("data %d %x", n, q)
		}
	default:
		d.add("data %d %x", n, b)
	}
}

// TestDays: random days are told as the second player tells them, and what P18.6 says follows.
func TestDays(t *testing.T) {
	t.Parallel()
	seen := map[string]int{}
	for seed := range uint64(900) {
		r := rand.New(rand.NewPCG(18, seed))
		text := randomDay(r, 1+r.IntN(60))
		got, want := engine.Tell(text), tellAgain(text)
		if got != want {
			t.Fatalf("P18.3, P18.4: seed %d:\n%s\nis told\n%s\nnot\n%s", seed, text, got, want)
		}
		report, err := engine.Play(text)
		if (err == nil) != (report == got) || err != nil && (report != "" || got != refusedAs(err)+"\n") {
			t.Fatalf("P18.5: seed %d: %v", seed, err)
		}
		note(seen, got)
		if seed%3 == 0 {
			followsDay(t, text)
		}
	}
	for _, kind := range reportKinds {
		if seen[kind] < 5 {
			t.Errorf("the days have too little of %q: %d", kind, seen[kind])
		}
	}
}

// reportKinds are the forms of a report's lines.
var reportKinds = []string{
	`^\d+: line \d+ sends [0-9a-f]+$`, `^\d+: line \d+ shut$`, `^\d+: ack "\\x0bMSH.*MSA\|AA.*"$`, `^\d+: ack ".*MSA\|AE.*"$`, `^\d+: down$`, `^\d+: up$`,
	`^\d+: scanner \d+ is told accepted 1:worklist:implicit$`, `^\d+: scanner \d+ is told accepted 1:retrieve:explicit 3:perform:explicit 5:verify:explicit 7:worklist:explicit$`,
	`^\d+: scanner \d+ is told rejected 1 1 \d$`, `^\d+: scanner \d+ is told rejected 2 3 2$`, `^\d+: scanner \d+ is told released$`, `^\d+: scanner \d+ is told aborted 0 0$`, `^\d+: scanner \d+ is told broken$`,
	`^\d+: scanner \d+ answer \d+ 0000$`, `^\d+: scanner \d+ answer \d+ FF0[01] \{$`, `^\d+: scanner \d+ answer \d+ 0000 \{$`, `^\d+: scanner \d+ answer \d+ FE00$`, `^\d+: scanner \d+ answer \d+ 0110 error A710$`, `^\d+: scanner \d+ answer \d+ 0120 \(0008,0060\)$`,
	`^\d+: refused scu 0 errno 34\d$`, `^\d+: refused scu 1 charset \d+ errno \d+$`, `^\d+: refused broker [23] errno 322$`,
	`^up$`, `^down$`, `^line \d+ sta 6 queue [1-9] owed [1-9]\d*$`, `^line \d+ sta 13 queue 0 owed 0$`, `^control "M\d+"$`, `^step "S\d" status [1234] date 20260701 time 083000 modality "(CT|MR)" station "CT1" patient ".*"$`, `^performed 1\.\d state [123] nodes \d+$`,
	`^refused engine 0 scu [045] errno 340$`, `^refused engine \d+ disk 0 errno 20$`, `^refused engine \d+ broker [14] errno 320$`,
	`^refused engine \d+ broker 1 store \d+ journal \d+.* errno \d+$`,
}

func note(seen map[string]int, report string) {
	for _, kind := range reportKinds {
		form := noted(kind)
		for _, line := range strings.Split(report, "\n") {
			if form.MatchString(line) {
				seen[kind]++
			}
		}
	}
}

var forms = map[string]*regexp.Regexp{}

func noted(kind string) *regexp.Regexp {
	if forms[kind] == nil {
		forms[kind] = regexp.MustCompile(kind)
	}
	return forms[kind]
}

// body is a report without its closing lines.
func body(report string) string {
	at := 0
	for _, line := range strings.SplitAfter(report, "\n") {
		if line == "up\n" || line == "down\n" {
			break
		}
		at += len(line)
	}
	return report[:at]
}

var lineNumber = regexp.MustCompile(`(?m)^\d+: `)

// followsDay: P18.6 of one text.
func followsDay(t *testing.T, text string) {
	t.Helper()
	s, err := engine.Parse(text)
	if err != nil {
		return
	}
	report, err := engine.Play(text)
	if err != nil {
		return
	}
	printed, err := engine.Print(s)
	if err != nil {
		t.Fatalf("P18.6: %v", err)
	}
	back, err := engine.Parse(printed)
	if err != nil || !same(bare(back), bare(s)) {
		t.Fatalf("P18.6: %s, %v, not %s", shown(back), err, shown(s))
	}
	place := map[string]string{}
	for i, h := range back.Haps {
		place[fmt.Sprintf("%d: ", s.Haps[i].Line)] = fmt.Sprintf("%d: ", h.Line)
	}
	moved := lineNumber.ReplaceAllStringFunc(report, func(n string) string { return place[n] })
	if again, err := engine.Play(printed); err != nil || again != moved {
		t.Fatalf("P18.6: %v\n%s\nnot\n%s", err, again, moved)
	}
	last := len(report)
	for i := len(s.Haps) - 1; i >= 0; i -= 1 + len(s.Haps)/5 {
		lines := strings.SplitAfter(text, "\n")
		part, err := engine.Play(strings.Join(lines[:s.Haps[i].Line-1], ""))
		if b := body(part); err != nil || !strings.HasPrefix(report, b) || len(b) > last {
			t.Fatalf("P18.6: of the first %d happenings: %v\n%s\nof all\n%s", i, err, part, report)
		} else {
			last = len(b)
		}
	}
}

// TestSpoiledTexts: texts with some bytes or lines gone, doubled, changed or moved are read as the second reader reads them.
func TestSpoiledTexts(t *testing.T) {
	t.Parallel()
	reasons := map[string]int{}
	for seed := range uint64(4000) {
		r := rand.New(rand.NewPCG(81, seed))
		text := randomDay(r, 1+r.IntN(12))
		for range r.IntN(4) {
			text = spoiled(r, text)
		}
		readsAs(t, text)
		if _, err := engine.Parse(text); err != nil {
			reasons[fmt.Sprint(err.(*api.Fault).Err)]++
		} else {
			reasons["nil"]++
		}
	}
	for _, n := range []api.Errno{api.ErrEngineLine, api.ErrEngineWord, api.ErrEngineScanner, api.ErrEngineDump} {
		if reasons[n.Error()] < 10 {
			t.Errorf("the texts have too little of %v: %d", n, reasons[n.Error()])
		}
	}
}

func spoiled(r *rand.Rand, text string) string {
	at := r.IntN(len(text) + 1)
	end := min(len(text), at+r.IntN(3))
	lines := strings.SplitAfter(text, "\n")
	i, j := r.IntN(len(lines)), r.IntN(len(lines))
	switch r.IntN(6) {
	case 5:
		return text[:at]
	case 0:
		return text[:at] + text[end:]
	case 1:
		return text[:at] + one(r, `"`, `\`, " ", "\n", "{", "}", "#", "0", "9", "x", "-", ",", ":", "\x00", "server\n", "start\n") + text[end:]
	case 2:
		lines[i], lines[j] = lines[j], lines[i]
	case 3:
		lines = append(lines[:i], lines[i+1:]...)
	case 4:
		lines[i] += lines[j]
	}
	return strings.Join(lines, "")
}
