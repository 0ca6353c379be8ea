package upper_test

import (
	"fmt"
	"strings"
	"testing"

	"modality/api"
	"modality/upper"
)

// stateTable is the document's table: a line an event, in it the actions by state.
const stateTable = `1 | 1 AE-1
2 | 4 AE-2
3 | 2 AA-1 · 3 AA-8 · 5 AE-3 · 6 to 12 AA-8 · 13 AA-6
4 | 2 AA-1 · 3 AA-8 · 5 AE-4 · 6 to 12 AA-8 · 13 AA-6
5 | 1 AE-5
6 | 2 AE-6 · 3 AA-8 · 5 to 12 AA-8 · 13 AA-7
7 | 3 AE-7
8 | 3 AE-8
9 | 6 DT-1 · 8 AR-7
10 | 2 AA-1 · 3 AA-8 · 5 AA-8 · 6 DT-2 · 7 AR-6 · 8 to 12 AA-8 · 13 AA-6
11 | 6 AR-1
12 | 2 AA-1 · 3 AA-8 · 5 AA-8 · 6 AR-2 · 7 AR-8 · 8 to 12 AA-8 · 13 AA-6
13 | 2 AA-1 · 3 AA-8 · 5 AA-8 · 6 AA-8 · 7 AR-3 · 8 AA-8 · 9 AA-8 · 10 AR-10 · 11 AR-3 · 12 AA-8 · 13 AA-6
14 | 8 AR-4 · 9 AR-9 · 12 AR-4
15 | 3 AA-1 · 4 AA-2 · 5 to 12 AA-1
16 | 2 AA-2 · 3 AA-3 · 5 to 12 AA-3 · 13 AA-2
17 | 2 AA-5 · 3 AA-4 · 4 AA-4 · 5 to 12 AA-4 · 13 AR-5
18 | 2 AA-2 · 13 AA-2
19 | 2 AA-1 · 3 AA-8 · 5 to 12 AA-8 · 13 AA-7`

// actionTable is the document's table of actions: its name, what is done, the timer, the state behind it. A name with a mark is that action in its other case.
const actionTable = `AE-1 | keep; connect | | 4
AE-2 | send kept | | 5
AE-3 | tell Accepted pdu | | 6
AE-4 | tell Rejected pdu; shut | | 1
AE-5 | answer | start | 2
AE-6 | tell Associate pdu | stop | 3
AE-6 bad | send answer | start | 13
AE-7 | send pdu | | 6
AE-8 | send pdu | start | 13
DT-1 | send pdu | | 6
DT-2 | tell Data pdu | | 6
AR-1 | send rq | | 7
AR-2 | tell Release | | 8
AR-3 | tell Released; shut | | 1
AR-4 | send rp | start | 13
AR-5 | | stop | 1
AR-6 | tell Data pdu | | 7
AR-7 | send pdu | | 8
AR-8 | tell Release | | 9
AR-8 not asked | tell Release | | 10
AR-9 | send rp | | 11
AR-10 | tell Released | | 12
AA-1 | send abort00 | start | 13
AA-2 | shut | stop | 1
AA-3 | tell Abort/Broken pdu; shut | | 1
AA-4 | tell Broken | | 1
AA-5 | | stop | 1
AA-6 | | | 13
AA-7 | send abort2 | | 13
AA-8 | send abort2; tell Broken | start | 13`

// row is a line of the table of actions.
type row struct {
	does  []string
	timer string
	then  int
}

// names is api's number of each action.
func names() map[string]int {
	return map[string]int{
		"AE-1": api.ActAE1, "AE-2": api.ActAE2, "AE-3": api.ActAE3, "AE-4": api.ActAE4, "AE-5": api.ActAE5, "AE-6": api.ActAE6, "AE-7": api.ActAE7, "AE-8": api.ActAE8,
		"DT-1": api.ActDT1, "DT-2": api.ActDT2,
		"AR-1": api.ActAR1, "AR-2": api.ActAR2, "AR-3": api.ActAR3, "AR-4": api.ActAR4, "AR-5": api.ActAR5, "AR-6": api.ActAR6, "AR-7": api.ActAR7, "AR-8": api.ActAR8, "AR-9": api.ActAR9, "AR-10": api.ActAR10,
		"AA-1": api.ActAA1, "AA-2": api.ActAA2, "AA-3": api.ActAA3, "AA-4": api.ActAA4, "AA-5": api.ActAA5, "AA-6": api.ActAA6, "AA-7": api.ActAA7, "AA-8": api.ActAA8,
	}
}

// cell is a state and an event.
type cell struct{ sta, event int }

// document is the document's two tables, read.
type document struct {
	actions map[cell]string // an action's name
	rows    map[string]row
}

// number reads a number that the document has.
func number(s string) int {
	var n int
	if _, err := fmt.Sscan(s, &n); err != nil {
		panic(s)
	}
	return n
}

func readDocument() *document {
	d := &document{map[cell]string{}, map[string]row{}}
	for _, line := range strings.Split(stateTable, "\n") {
		event, cells, _ := strings.Cut(line, " | ")
		for _, c := range strings.Split(cells, " · ") {
			word := strings.Fields(c)
			for sta := number(word[0]); sta <= number(word[len(word)-2]); sta++ {
				d.actions[cell{sta, number(event)}] = word[len(word)-1]
			}
		}
	}
	for _, line := range strings.Split(actionTable, "\n") {
		part := strings.Split(line, "|")
		r := row{timer: strings.TrimSpace(part[2]), then: number(part[3])}
		for _, what := range strings.Split(part[1], ";") {
			if what = strings.TrimSpace(what); what != "" {
				r.does = append(r.does, what)
			}
		}
		d.rows[strings.TrimSpace(part[0])] = r
	}
	return d
}

// caseOf is the name of an action in the case in which it is done.
func caseOf(name string, asked, bad bool) string {
	switch {
	case name == "AE-6" && bad:
		return "AE-6 bad"
	case name == "AR-8" && !asked:
		return "AR-8 not asked"
	}
	return name
}

// TestAction: all pairs of the table, and numbers that are none.
func TestAction(t *testing.T) {
	d, number := readDocument(), names()
	all := far()
	for n := -3; n < 40; n++ {
		all = append(all, n)
	}
	some := 0
	for _, sta := range all {
		for _, event := range all {
			want := number[d.actions[cell{sta, event}]]
			if got := upper.Action(sta, event); got != want {
				t.Errorf("P9.1: Action(%d, %d): %d; want %d", sta, event, got, want)
			}
			if want != api.ActNone {
				some++
			}
		}
	}
	if some != 123 || len(number) != 28 || len(d.rows) != 30 {
		t.Errorf("the test's tables are %d pairs, %d actions, %d rows", some, len(number), len(d.rows))
	}
}

// TestAfter: every action in every case from every state, and numbers that are no action.
func TestAfter(t *testing.T) {
	d, number := readDocument(), names()
	states := append(far(), 0, 1, 2, 3, 4, 5, 6, 7, 8, 9, 10, 11, 12, 13, 14)
	for _, sta := range states {
		for _, asked := range []bool{false, true} {
			for _, bad := range []bool{false, true} {
				for name, action := range number {
					want := d.rows[caseOf(name, asked, bad)].then
					if got := upper.After(action, sta, asked, bad); got != want {
						t.Errorf("P9.2: After(%s, %d, %v, %v): %d; want %d", name, sta, asked, bad, got, want)
					}
				}
				for _, action := range append(far(), api.ActNone) {
					if action > api.ActNone && action <= api.ActAA8 {
						continue
					}
					if got := upper.After(action, sta, asked, bad); got != sta {
						t.Errorf("P9.2: After(%d, %d, %v, %v): %d, not the state itself", action, sta, asked, bad, got)
					}
				}
			}
		}
	}
}

// TestEventOf: every kind, whatever else the PDU has, and kinds that are none.
func TestEventOf(t *testing.T) {
	want := map[int]int{
		api.PduRQ: api.EvRqPdu, api.PduAC: api.EvAcPdu, api.PduRJ: api.EvRjPdu, api.PduData: api.EvDataPdu,
		api.PduReleaseRQ: api.EvRqEnd, api.PduReleaseRP: api.EvRpEnd, api.PduAbort: api.EvAbortPdu,
	}
	kinds := far()
	for n := -3; n < 300; n++ {
		kinds = append(kinds, n)
	}
	for _, kind := range kinds {
		for _, p := range []api.Pdu{{Kind: kind}, whole(kind, 3)} {
			if got := upper.EventOf(p); got != want[kind] {
				t.Errorf("P9.3: kind %d: event %d; want %d", kind, got, want[kind])
			}
		}
	}
}
