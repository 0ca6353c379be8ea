package upper_test

import (
	"math"
	"math/rand"
	"strings"
	"testing"

	"modality/api"
	"modality/pdu"
	"modality/upper"
)

// answer is all that Negotiate answers.
type answer struct {
	ac       api.Pdu
	contexts []api.Context
	most     int
	reject   api.Pdu
	ok       bool
}

func negotiate(rq api.Pdu, c api.Config, busy int) answer {
	var a answer
	a.ac, a.contexts, a.most, a.reject, a.ok = upper.Negotiate(rq, c, busy)
	return a
}

// rejected is the answer that rejects with these numbers.
func rejected(result, source, reason uint8) answer {
	return answer{reject: api.Pdu{Kind: api.PduRJ, Result: result, Source: source, Reason: reason}}
}

// asking is a request that server takes, new at each call.
func asking() api.Pdu {
	return api.Pdu{Kind: api.PduRQ, Assoc: api.Associate{
		Version: 1, Called: "RIS", Calling: "CT1", App: api.UIDContext,
		Contexts: []api.PresContext{{Id: 1, Class: api.UIDVerify, Syntaxes: []string{api.UIDImplicit}}},
		User:     api.UserInfo{HasMax: true, MaxLength: 4096},
	}}
}

func server() api.Config {
	return api.Config{Title: "RIS", Callers: []string{"MR", "CT1"}, Lines: 4}
}

// accepting is an A-ASSOCIATE-AC for asking, with these contexts.
func accepting(contexts ...api.PresContext) api.Pdu {
	return api.Pdu{Kind: api.PduAC, Assoc: api.Associate{
		Version: 1, Called: "RIS", Calling: "CT1", App: "1.2.840.10008.3.1.1.1", Contexts: contexts,
		User: api.UserInfo{HasMax: true, MaxLength: 16384, Class: "1.2.826.0.1.3680043.10.1414", Name: "MODALITY_1"},
	}}
}

// wantAnswer fails if a request is not answered just so.
func wantAnswer(t *testing.T, rq api.Pdu, c api.Config, busy int, want answer) {
	t.Helper()
	if got := negotiate(rq, c, busy); !same(got, want) {
		t.Errorf("P9.7: %s, %+v, %d: %s; want %s", shown(rq), c, busy, shown(got), shown(want))
	}
}

// wantTaken fails if a request is rejected, or, if it must not be taken, is not rejected with these numbers.
func wantTaken(t *testing.T, taken bool, rq api.Pdu, c api.Config, busy int, result, source, reason uint8) {
	t.Helper()
	if !taken {
		wantAnswer(t, rq, c, busy, rejected(result, source, reason))
	} else if got := negotiate(rq, c, busy); !got.ok || !same(got.reject, api.Pdu{}) || got.ac.Kind != api.PduAC {
		t.Errorf("P9.7: %s, %+v, %d: %s", shown(rq), c, busy, shown(got))
	}
}

// TestAccepted: an answer with each result, all of it.
func TestAccepted(t *testing.T) {
	rq := asking()
	rq.Assoc.Version = 0xFFFF
	rq.Assoc.Contexts = []api.PresContext{
		{Id: 9, Class: api.UIDWorklist, Syntaxes: []string{"1.2", api.UIDExplicit, api.UIDImplicit}},
		{Id: 3, Class: "1.2.3", Syntaxes: []string{api.UIDImplicit}},
		{Id: 5, Class: api.UIDPerform, Syntaxes: []string{"1.2", "1.2.840.10008.1.2.2"}},
		{Id: 1, Class: api.UIDVerify, Syntaxes: []string{api.UIDImplicit, api.UIDExplicit}},
	}
	rq.Assoc.User = whole(api.PduRQ, 5).Assoc.User
	want := answer{
		ac: accepting(
			api.PresContext{Id: 9, Syntaxes: []string{"1.2.840.10008.1.2.1"}},
			api.PresContext{Id: 3, Result: 3},
			api.PresContext{Id: 5, Result: 4},
			api.PresContext{Id: 1, Syntaxes: []string{"1.2.840.10008.1.2"}},
		),
		contexts: []api.Context{{Id: 9, Class: "1.2.840.10008.5.1.4.31", Syntax: api.Explicit}, {Id: 1, Class: "1.2.840.10008.1.1", Syntax: api.Implicit}},
		most:     77,
		ok:       true,
	}
	wantAnswer(t, rq, server(), 3, want)
	rq.Values, rq.Result, rq.Source, rq.Reason = []api.Pdv{{Context: 1}}, 1, 2, 3
	wantAnswer(t, rq, server(), 3, want)
}

// TestReasons: each set of reasons is told by its first one.
func TestReasons(t *testing.T) {
	spoils := []struct {
		put  func(rq *api.Pdu, c *api.Config, busy *int)
		want answer
	}{
		{func(rq *api.Pdu, c *api.Config, busy *int) { rq.Kind = api.PduAC }, rejected(1, 2, 2)},
		{func(rq *api.Pdu, c *api.Config, busy *int) { rq.Assoc.Version = 0xFFFE }, rejected(1, 2, 2)},
		{func(rq *api.Pdu, c *api.Config, busy *int) { rq.Assoc.App = "1.2" }, rejected(1, 1, 2)},
		{func(rq *api.Pdu, c *api.Config, busy *int) { c.Title = "OTHER" }, rejected(1, 1, 7)},
		{func(rq *api.Pdu, c *api.Config, busy *int) { c.Callers = []string{"MR"} }, rejected(1, 1, 3)},
		{func(rq *api.Pdu, c *api.Config, busy *int) { rq.Assoc.User.MaxLength = 63 }, rejected(1, 1, 1)},
		{func(rq *api.Pdu, c *api.Config, busy *int) { *busy = 4 }, rejected(2, 3, 2)},
	}
	for set := 1; set < 1<<len(spoils); set++ {
		rq, c, busy := asking(), server(), 3
		var want *answer
		for i, s := range spoils {
			if set&(1<<i) != 0 {
				s.put(&rq, &c, &busy)
				if want == nil {
					want = &spoils[i].want
				}
			}
		}
		wantAnswer(t, rq, c, busy, *want)
	}
	wantTaken(t, true, asking(), server(), 3, 0, 0, 0)
}

// TestVersions: every version, every kind of PDU.
func TestVersions(t *testing.T) {
	for version := range 1 << 16 {
		rq := asking()
		rq.Assoc.Version = uint16(version)
		wantTaken(t, version%2 == 1, rq, server(), 0, 1, 2, 2)
	}
	for _, kind := range append(far(), 0, 1, 2, 3, 4, 5, 6, 7, 8) {
		rq := asking()
		rq.Kind = kind
		wantTaken(t, kind == 1, rq, server(), 0, 1, 2, 2)
	}
	for _, app := range []string{"", "1.2.840.10008.3.1.1.1 ", " 1.2.840.10008.3.1.1.1", "1.2.840.10008.3.1.1.1\x00", "1.2.840.10008.3.1.1", "1.2.840.10008.3.1.1.1.1"} {
		rq := asking()
		rq.Assoc.App = app
		wantTaken(t, false, rq, server(), 0, 1, 1, 2)
	}
}

// TestTitles: spaces ahead and behind do not count, all else does.
func TestTitles(t *testing.T) {
	texts := []string{"", " ", "  ", "R", " R", "R ", "  R  ", "r", "R\t", "\tR", "R\x00", "R\n", "R R", " R R ", "R  R", "RR", "\u00a0R", "R\u2003", "é", " é "}
	bare := func(s string) string {
		for strings.HasPrefix(s, " ") {
			s = s[1:]
		}
		for strings.HasSuffix(s, " ") {
			s = s[:len(s)-1]
		}
		return s
	}
	for _, one := range texts {
		for _, other := range texts {
			equal := bare(one) == bare(other)
			rq, c := asking(), server()
			rq.Assoc.Called, c.Title = one, other
			wantTaken(t, equal, rq, c, 0, 1, 1, 7)
			rq, c = asking(), server()
			rq.Assoc.Calling, c.Callers = one, []string{other}
			wantTaken(t, equal, rq, c, 0, 1, 1, 3)
			c.Callers = []string{"X", other, "Y"}
			wantTaken(t, equal, rq, c, 0, 1, 1, 3)
			c.Callers = []string{"X", "Y", other}
			wantTaken(t, equal, rq, c, 0, 1, 1, 3)
		}
		for _, none := range [][]string{nil, {}} {
			rq, c := asking(), server()
			rq.Assoc.Calling, c.Callers = one, none
			wantTaken(t, true, rq, c, 0, 0, 0, 0)
		}
	}
	rq, c := asking(), server()
	rq.Assoc.Called, rq.Assoc.Calling, c.Title = "  RIS ", " CT1  ", "RIS   "
	want := negotiate(asking(), server(), 0)
	want.ac.Assoc.Called, want.ac.Assoc.Calling = "  RIS ", " CT1  "
	wantAnswer(t, rq, c, 0, want)
}

// TestMaxLengths: which lengths are too short, and which one the server keeps to.
func TestMaxLengths(t *testing.T) {
	lengths := []uint32{1<<31 - 1, 1 << 31, 1<<32 - 1}
	for n := range uint32(16500) {
		lengths = append(lengths, n)
	}
	for _, n := range lengths {
		rq := asking()
		rq.Assoc.User.MaxLength = n
		want := negotiate(asking(), server(), 0)
		switch want.most = int(n); {
		case n >= 1 && n <= 63:
			want = rejected(1, 1, 1)
		case n == 0 || n > 16384:
			want.most = 16384
		}
		wantAnswer(t, rq, server(), 0, want)
		rq.Assoc.User.HasMax = false
		want = negotiate(asking(), server(), 0)
		want.most = 16384
		wantAnswer(t, rq, server(), 0, want)
	}
}

// TestBusy: as many associations as there are lines, and one less.
func TestBusy(t *testing.T) {
	for lines := -1; lines <= 17; lines++ {
		for _, busy := range []int{math.MinInt, -2, -1, 0, 1, lines - 2, lines - 1, lines, lines + 1, 15, 16, 17, math.MaxInt} {
			c := server()
			c.Lines = lines
			wantTaken(t, busy < lines, asking(), c, busy, 2, 3, 2)
		}
	}
}

// TestContexts: every class with every list of up to three syntaxes.
func TestContexts(t *testing.T) {
	syntaxes := []string{api.UIDImplicit, api.UIDExplicit, "1.2.840.10008.1.2.2", "1.2.840.10008.1.2 ", ""}
	var lists [][]string
	for _, a := range syntaxes {
		lists = append(lists, []string{a})
		for _, b := range syntaxes {
			lists = append(lists, []string{a, b})
			for _, c := range syntaxes {
				lists = append(lists, []string{a, b, c})
			}
		}
	}
	lists = append(lists, nil, []string{})
	served := map[string]bool{"1.2.840.10008.1.1": true, "1.2.840.10008.5.1.4.31": true, "1.2.840.10008.3.1.2.3.3": true, "1.2.840.10008.3.1.2.3.4": true}
	classes := []string{"", "1.2.840.10008.1.1 ", "1.2.840.10008.1", "1.2.840.10008.5.1.4.1.2.1.1", "1.2.840.10008.3.1.2.3.5", "1.2.840.10008.3.1.2.3", api.UIDImplicit, api.UIDContext}
	for class := range served {
		classes = append(classes, class)
	}
	for i, class := range classes {
		for j, list := range lists {
			id := uint8(i*len(lists) + j)
			asked := api.PresContext{Id: id, Result: 9, Class: class, Syntaxes: list}
			rq := asking()
			rq.Assoc.Contexts = []api.PresContext{asked}
			want := answer{ac: accepting(contextAnswer(asked, served)), most: 4096, ok: true}
			if got := want.ac.Assoc.Contexts[0]; got.Result == 0 {
				want.contexts = []api.Context{{Id: id, Class: class, Syntax: 1}}
				if got.Syntaxes[0] == api.UIDExplicit {
					want.contexts[0].Syntax = 2
				}
			}
			wantAnswer(t, rq, server(), 0, want)
		}
	}
}

// contextAnswer is the answer to a context, by the document's table.
func contextAnswer(asked api.PresContext, served map[string]bool) api.PresContext {
	if !served[asked.Class] {
		return api.PresContext{Id: asked.Id, Result: 3}
	}
	text := "\n" + strings.Join(asked.Syntaxes, "\n") + "\n"
	implicit, explicit := strings.Index(text, "\n1.2.840.10008.1.2\n"), strings.Index(text, "\n1.2.840.10008.1.2.1\n")
	switch {
	case implicit < 0 && explicit < 0:
		return api.PresContext{Id: asked.Id, Result: 4}
	case explicit < 0 || implicit >= 0 && implicit < explicit:
		return api.PresContext{Id: asked.Id, Syntaxes: []string{"1.2.840.10008.1.2"}}
	}
	return api.PresContext{Id: asked.Id, Syntaxes: []string{"1.2.840.10008.1.2.1"}}
}

// TestNoContexts: nil and empty lists are the same, and an answer's list without an element is nil.
func TestNoContexts(t *testing.T) {
	for _, none := range [][]api.PresContext{nil, {}} {
		rq := asking()
		rq.Assoc.Contexts = none
		wantAnswer(t, rq, server(), 0, answer{ac: accepting(), most: 4096, ok: true})
	}
	rq := asking()
	rq.Assoc.Contexts[0].Class = "1.2"
	wantAnswer(t, rq, server(), 0, answer{ac: accepting(api.PresContext{Id: 1, Result: 3}), most: 4096, ok: true})
}

// someRequest is a request that layer 8 reads, with up to all contexts that there can be.
func someRequest(r *rand.Rand) api.Pdu {
	rq := asking()
	rq.Assoc.Contexts = nil
	classes := []string{api.UIDVerify, api.UIDWorklist, api.UIDPerform, api.UIDRetrieve, "1.2.3"}
	syntaxes := []string{api.UIDImplicit, api.UIDExplicit, "1.2.840.10008.1.2.2", "1.2.4"}
	count := 1 + r.Intn(6)
	if r.Intn(4) == 0 {
		count = api.MaxContexts - r.Intn(2)
	}
	for _, n := range r.Perm(128)[:count] {
		c := api.PresContext{Id: uint8(2*n + 1), Class: classes[r.Intn(len(classes))]}
		for range 1 + r.Intn(4) {
			c.Syntaxes = append(c.Syntaxes, syntaxes[r.Intn(len(syntaxes))])
		}
		rq.Assoc.Contexts = append(rq.Assoc.Contexts, c)
	}
	switch r.Intn(12) {
	case 0:
		rq.Assoc.Version = 2
	case 1:
		rq.Assoc.App = "1.2"
	case 2:
		rq.Assoc.Called = "OTHER"
	case 3:
		rq.Assoc.Calling = strings.Repeat("C", 16)
	case 4:
		rq.Assoc.User.MaxLength = uint32(r.Intn(70))
	}
	return rq
}

// TestAnswersWritten: where layer 8 reads the request, it writes the answer; and the contexts are those of the answer that were taken.
func TestAnswersWritten(t *testing.T) {
	taken := 0
	for seed := range int64(1500) {
		r := rand.New(rand.NewSource(seed))
		b, err := pdu.Encode(someRequest(r))
		if err != nil {
			t.Fatal(err)
		}
		rq, err := pdu.Decode(b)
		if err != nil {
			t.Fatal(err)
		}
		got := negotiate(rq, server(), r.Intn(5))
		out := got.reject
		if got.ok {
			out = got.ac
			taken++
			wantPaired(t, rq, got)
		}
		b, err = pdu.Encode(out)
		if err != nil {
			t.Fatalf("P9.7: %s: the answer %s is not written: %v", shown(rq), shown(out), err)
		}
		if back, err := pdu.Decode(b); err != nil || !same(back, out) {
			t.Fatalf("P9.7: the answer %s is read as %s, %v", shown(out), shown(back), err)
		}
	}
	if taken < 300 {
		t.Errorf("only %d requests were taken", taken)
	}
}

// wantPaired fails if the contexts that are told are not those that the answer takes.
func wantPaired(t *testing.T, rq api.Pdu, got answer) {
	t.Helper()
	if len(got.ac.Assoc.Contexts) != len(rq.Assoc.Contexts) {
		t.Fatalf("P9.7: %d answers to %d contexts", len(got.ac.Assoc.Contexts), len(rq.Assoc.Contexts))
	}
	uids := map[api.Syntax]string{api.Implicit: api.UIDImplicit, api.Explicit: api.UIDExplicit}
	left := got.contexts
	for i, c := range got.ac.Assoc.Contexts {
		asked := rq.Assoc.Contexts[i]
		if c.Id != asked.Id || c.Class != "" {
			t.Errorf("P9.7: %+v answers %+v", c, asked)
		}
		if c.Result != 0 {
			continue
		}
		if len(left) == 0 || left[0].Id != c.Id || left[0].Class != asked.Class || len(c.Syntaxes) != 1 || uids[left[0].Syntax] != c.Syntaxes[0] {
			t.Fatalf("P9.7: %+v is taken, but %+v is told", c, left)
		}
		left = left[1:]
	}
	if len(left) > 0 {
		t.Errorf("P9.7: %+v are told, but not taken", left)
	}
}
