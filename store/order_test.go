package store_test

import (
	"slices"
	"strings"
	"testing"

	"modality/api"
	"modality/store"
)

// modelOrder is P12.10's table once more, row by row: the acknowledgement, and what is put (Kind 0: nothing).
func modelOrder(st api.State, o api.Order) (code, words string, m api.Mutation) {
	var list []string
	for _, s := range o.Steps {
		list = append(list, s.ID)
	}
	if o.Verb == api.OrderCancel {
		list = slices.Clone(o.IDs)
	}
	count := map[int]int{} // how many of the steps are there, by status; 0: not there
	seen := map[string]int{}
	twice := false
	for _, id := range list {
		count[statusOf(st, id)]++
		twice = twice || seen[id] > 0
		seen[id]++
	}
	bad := false
	var steps []api.Step
	for _, s := range o.Steps {
		s.Status = api.StepScheduled
		bad = bad || store.Row(s) != nil
		steps = append(steps, s)
	}
	isNew, isChange, isCancel := o.Verb == api.OrderNew, o.Verb == api.OrderChange, o.Verb == api.OrderCancel
	for _, r := range []struct {
		applies     bool
		code, words string
	}{
		{o.Control != "" && o.Control == st.Control, "AA", ""},
		{o.Code != "", o.Code, o.Words},
		{o.Control == "" || len(o.Control) > 20 || strings.ContainsFunc(o.Control, func(c rune) bool { return c < ' ' || c > '~' }), "AR", "no control ID"},
		{!isNew && !isChange && !isCancel, "AE", "order control"},
		{len(list) == 0 || len(list) > 8, "AE", "how many orders"},
		{twice, "AE", "step twice"},
		{isNew && count[0] < len(list), "AE", "step is there"},
		{!isNew && count[0] > 0, "AE", "no such step"},
		{isChange && count[1] < len(list), "AE", "step has begun"},
		{isCancel && count[2] > 0, "AE", "step has begun"},
		{!isCancel && bad, "AE", "value"},
		{isNew && len(st.Steps)+len(list) > 256, "AE", "schedule is full"},
	} {
		if r.applies {
			return r.code, r.words, api.Mutation{}
		}
	}
	slices.Sort(list)
	slices.SortFunc(steps, func(a, b api.Step) int { return strings.Compare(a.ID, b.ID) })
	if isCancel {
		return "AA", "", gone(o.Control, list...)
	}
	return "AA", "", putSteps(o.Control, steps...)
}

// orderIs holds an order against the table: what is told, the state, the journal.
func orderIs(t *testing.T, st api.State, o api.Order) string {
	t.Helper()
	s, d := storeIn(t, st, 1000)
	before := d.Image()
	code, words, m := modelOrder(st, o)
	acks(t, s, o, code, words)
	if m.Kind == 0 {
		stateIs(t, "P12.10: nothing is changed", s, st)
		if !same(d.Image(), before) {
			t.Fatalf("P12.10: %s: the disk has changed", shown(o))
		}
		return code + words
	}
	want, flaw := modelApply(st, m)
	if flaw != taken {
		t.Fatalf("the table and Apply part: %s", shown(m))
	}
	stateIs(t, "P12.10: "+shown(o), s, want)
	if _, _, records := journalOf(t, d); !same(records, [][]byte{encoded(t, m)}) {
		t.Fatalf("P12.10: %s: the records are % x", shown(o), records)
	}
	return code + words
}

// orderSteps are lists of steps of every kind.
func orderSteps() [][]api.Step {
	wrong := func(id string) api.Step { s := row(id); s.Sex = "X"; return s }
	fresh := func(id string, status int) api.Step { s := rowOf(id, status); s.Desc = "new"; return s }
	return [][]api.Step{
		nil, {}, {fresh("A", 1)}, {fresh("B", 0)}, {fresh("C", 9)}, {fresh("B", 1), fresh("A", 4)}, {fresh("A", 1), fresh("A", 1)}, {fresh("A", 1), wrong("A")}, {fresh("D", 1), fresh("C", 2)}, {fresh("C", 1), fresh("A", 1)},
		{wrong("A")}, {wrong("C")}, {fresh("C", 1), wrong("D")}, {fresh("A", 1), wrong("B")}, {{}}, {{ID: "C"}}, {fresh("", 1)}, {fresh("é", 1)},
		rows(ids(8)...), rows(ids(9)...), append(rows(ids(8)...), row("S000")), append(rows(ids(7)...), row("S000")),
	}
}

func orderIDs() [][]string {
	return [][]string{nil, {}, {"A"}, {"B"}, {"C"}, {"B", "A"}, {"A", "B"}, {"A", "A"}, {"A", "C"}, {""}, {"é"}, ids(8), ids(9), append(ids(8), "S000"), {"C", "C"}}
}

// TestOrderSmall: P12.10: orders of every kind in every small state.
func TestOrderSmall(t *testing.T) {
	seen := map[string]int{}
	n := 0
	for _, st := range smallStates() {
		if len(st.Perfs) > 0 {
			continue
		}
		for verb := range 5 {
			for i, steps := range orderSteps() {
				for k, list := range orderIDs() {
					if n++; n%3 == 0 && (i == 2 || k == 2) || verb == api.OrderCancel && i == 0 || verb != api.OrderCancel && k == 0 {
						seen[orderIs(t, st, api.Order{Control: "N", Verb: verb, Steps: steps, IDs: list})]++
					}
				}
			}
		}
	}
	for _, want := range []string{"AA", "AEorder control", "AEhow many orders", "AEstep twice", "AEstep is there", "AEno such step", "AEstep has begun", "AEvalue"} {
		if seen[want] < 5 {
			t.Errorf("P12.10: %q was seen %d times", want, seen[want])
		}
	}
}

// TestOrderHead: P12.10: control IDs and refused messages come ahead of what is asked.
func TestOrderHead(t *testing.T) {
	for _, own := range []string{"", "M", long("c", 20)} {
		st := api.State{Control: own, Steps: []api.Step{rowOf("A", 2)}}
		for _, control := range []string{"", "M", "N", " ", "~", long("c", 20), long("c", 21), "\x1f", "a\x7f", "é", "a\nb", long("c", 100000)} {
			for _, code := range []string{"", "AE", "AR", "AA", "??"} {
				for _, verb := range []int{0, -1, 4, api.OrderNew, api.OrderChange, api.OrderCancel} {
					for _, steps := range [][]api.Step{nil, rows("A"), rows("B")} {
						orderIs(t, st, api.Order{Control: control, Code: code, Words: "the words", Verb: verb, Steps: steps, IDs: []string{"A"}})
					}
				}
			}
		}
		orderIs(t, st, api.Order{})
		orderIs(t, st, api.Order{Words: "words alone"})
	}
}

// TestOrderFull: P12.10: at MaxSteps, and one past it; a value is looked at first.
func TestOrderFull(t *testing.T) {
	for n := 246; n <= 256; n++ {
		st := api.State{Control: "M", Steps: rows(ids(n)...)}
		for _, more := range []int{1, 2, 8} {
			list := rows(ids(264)[n : n+more]...)
			orderIs(t, st, api.Order{Control: "N", Verb: api.OrderNew, Steps: list})
			list[more-1].Time = ""
			orderIs(t, st, api.Order{Control: "N", Verb: api.OrderNew, Steps: list})
			orderIs(t, st, api.Order{Control: "N", Verb: api.OrderChange, Steps: rows(ids(n)[n-more:]...)})
		}
	}
	s, _ := storeIn(t, api.State{Control: "M", Steps: rows(ids(256)...)}, 10)
	acks(t, s, api.Order{Control: "N", Verb: api.OrderNew, Steps: rows("Z")}, "AE", "schedule is full")
	acks(t, s, api.Order{Control: "N", Verb: api.OrderCancel, IDs: []string{"S007"}}, "AA", "")
	acks(t, s, api.Order{Control: "O", Verb: api.OrderNew, Steps: rows("Z")}, "AA", "")
}

// TestOrderRoom: P12.10: no room, and room again (the document's example 4).
func TestOrderRoom(t *testing.T) {
	for _, x := range []scene{tight(t), small(t), last(t)} {
		before := x.store.State()
		o := api.Order{Control: x.next.Control, Verb: api.OrderNew, Steps: x.next.Steps}
		for range 2 {
			acks(t, x.store, o, "AE", "no room")
			stateIs(t, "P12.10: no room", x.store, before)
			copyTells(t, "P12.14: no room", x.disk, before)
		}
		x.disk.Quota(100)
		acks(t, x.store, o, "AA", "")
		want, _ := modelApply(before, x.next)
		stateIs(t, "P12.10: room again", x.store, want)
	}
	x := worn(t)
	acks(t, x.store, api.Order{Control: "N", Verb: api.OrderCancel, IDs: []string{"A"}}, "AA", "")
}

// TestOrderOff: P12.10: the power goes at any write.
func TestOrderOff(t *testing.T) {
	for _, make := range []func(*testing.T) scene{worn, small} {
		for writes := range 6 {
			x := make(t)
			before := x.store.State()
			x.disk.Fuse(writes)
			code, words, err := x.store.Order(api.Order{Control: "N", Verb: api.OrderNew, Steps: x.next.Steps})
			if code != "" || words != "" || !is(err, api.ErrStoreOff, 0) {
				t.Fatalf("P12.10: %s, %d writes: %q, %q, %v", x.name, writes, code, words, err)
			}
			isOff(t, "P12.10: "+x.name, x.store, x.disk, before)
		}
	}
}

// TestOrderTwice: P12.16: told twice with one control ID it is made once, whatever it says the second time, behind a start too.
func TestOrderTwice(t *testing.T) {
	for _, o := range []api.Order{
		{Control: "N", Verb: api.OrderNew, Steps: rows("C")}, {Control: "N", Verb: api.OrderChange, Steps: rows("A")}, {Control: "N", Verb: api.OrderCancel, IDs: []string{"A"}},
	} {
		s, d := storeIn(t, api.State{Control: "M", Steps: rows("A", "B")}, 10)
		acks(t, s, o, "AA", "")
		want, img := s.State(), d.Image()
		for range 2 {
			acks(t, s, o, "AA", "")
			acks(t, s, api.Order{Control: "N", Verb: api.OrderCancel, IDs: []string{"B"}}, "AA", "")
			acks(t, s, api.Order{Control: "N", Code: "AE", Words: "value"}, "AA", "")
			stateIs(t, "P12.16", s, want)
			if !same(d.Image(), img) {
				t.Fatal("P12.16: the disk has changed")
			}
			d.Cut(api.PowerCut{})
			s = opens(t, d, 10)
			stateIs(t, "P12.13", s, want)
			img = d.Image()
		}
		acks(t, s, api.Order{Control: "Q", Verb: api.OrderCancel, IDs: []string{"Z"}}, "AE", "no such step")
		acks(t, s, o, "AA", "") // the refused one's control ID was not kept
		stateIs(t, "P12.16", s, want)
	}
}

// TestOrderSaid: the document's example 3.
func TestOrderSaid(t *testing.T) {
	s := opens(t, newDisk(t, 100), 2)
	o := api.Order{Control: "M1", Verb: api.OrderNew, Steps: rows("A1")}
	acks(t, s, o, "AA", "")
	acks(t, s, o, "AA", "")
	o.Control = "M2"
	acks(t, s, o, "AE", "step is there")
	acks(t, s, api.Order{Control: "M3", Verb: api.OrderCancel, IDs: []string{"A2"}}, "AE", "no such step")
	stateIs(t, "example 3", s, api.State{Control: "M1", Steps: rows("A1")})
	acks(t, s, api.Order{Control: "M4", Verb: api.OrderCancel, IDs: []string{"A1"}}, "AA", "")
	stateIs(t, "example 3", s, api.State{Control: "M4"})
}
