package store_test

import (
	"fmt"
	"reflect"
	"slices"
	"strings"
	"testing"

	"modality/api"
	"modality/disk"
	"modality/journal"
	"modality/store"
)

// is tells whether an error is this layer's fault with this number at this place; OK: no error.
func is(err error, reason api.Errno, at int) bool {
	if reason == api.OK {
		return err == nil
	}
	f, ok := err.(*api.Fault)
	return ok && f != nil && f.Layer == "store" && f.At == at && f.Err == error(reason)
}

func refused(t *testing.T, what string, err error, at int, reason api.Errno) {
	t.Helper()
	if !is(err, reason, at) {
		t.Fatalf("%s: %v, not a fault of store at %d: %d", what, err, at, reason)
	}
}

func same(a, b any) bool { return reflect.DeepEqual(a, b) }

// shown tells the beginning of anything.
func shown(x any) string { return fmt.Sprintf("%.1500s", fmt.Sprintf("%+q", x)) }

// row is the row of the document's examples.
func row(id string) api.Step {
	return api.Step{ID: id, Procedure: "P", Study: "1.2", PatientName: "X^Y", PatientID: "7", Modality: "CT", Station: "CT1", Date: "20260701", Time: "083000", Status: api.StepScheduled}
}

func rowOf(id string, status int) api.Step {
	s := row(id)
	s.Status = status
	return s
}

func rows(ids ...string) []api.Step {
	var list []api.Step
	for _, id := range ids {
		list = append(list, row(id))
	}
	return list
}

// full is a row with something in every field, each unlike the others.
func full(id string) api.Step {
	return api.Step{
		ID: id, Accession: "A1", Procedure: "RP1", ProcedureDesc: "Schädel", Study: "1.2.3", PatientName: "Doe^Jane^Q^Dr^Jr=a=b",
		PatientID: "P1", Issuer: "H", Birth: "19700101", Sex: "F", Referrer: "Smith^Ann", Modality: "MR",
		Station: "SCAN 1", StationName: "Room", Location: "W1", Date: "20240131", Time: "120060", Performer: "Tech^Tom",
		Desc: "Step", Status: api.StepScheduled,
	}
}

// ids gives so many IDs, rising.
func ids(n int) []string {
	var list []string
	for i := range n {
		list = append(list, fmt.Sprintf("S%03d", i))
	}
	return list
}

var words = map[int]string{api.PerfProgress: "IN PROGRESS", api.PerfCompleted: "COMPLETED", api.PerfDiscontinued: "DISCONTINUED"}

func done(state int) api.Node {
	return api.Node{Tag: api.TagDoneStatus, VR: api.VRCS, Value: words[state]}
}

// perf is a performed step with these elements beside its status.
func perf(uid string, state int, more ...api.Node) api.Perf {
	data := append([]api.Node{done(state)}, more...)
	slices.SortStableFunc(data, func(a, b api.Node) int { return int(a.Tag) - int(b.Tag) })
	return api.Perf{UID: uid, State: state, Data: data}
}

func putSteps(control string, steps ...api.Step) api.Mutation {
	return api.Mutation{Kind: api.MStep, Control: control, Steps: steps}
}

func gone(control string, ids ...string) api.Mutation {
	return api.Mutation{Kind: api.MGone, Control: control, IDs: ids}
}

func performed(p api.Perf, moves ...api.Move) api.Mutation {
	return api.Mutation{Kind: api.MPerf, Perf: p, Moves: moves}
}

func based(control string) api.Mutation {
	return api.Mutation{Kind: api.MBase, Control: control}
}

func moves(status int, ids ...string) []api.Move {
	var list []api.Move
	for _, id := range ids {
		list = append(list, api.Move{ID: id, Status: status})
	}
	return list
}

// set writes into a text field of a step by its number.
func set(s *api.Step, field int, text string) {
	reflect.ValueOf(s).Elem().Field(field).SetString(text)
}

func newDisk(t *testing.T, blocks int) *disk.Disk {
	t.Helper()
	d, err := disk.New(api.DiskConfig{Blocks: blocks, Names: 2})
	if err != nil {
		t.Fatal(err)
	}
	return d
}

func loadDisk(t *testing.T, img api.DiskImage) *disk.Disk {
	t.Helper()
	d, err := disk.Load(img)
	if err != nil {
		t.Fatal(err)
	}
	return d
}

func opens(t *testing.T, d *disk.Disk, compact int) *store.Store {
	t.Helper()
	s, err := store.Open(d, compact)
	if err != nil || s == nil {
		t.Fatalf("Open: %v, %v", s, err)
	}
	return s
}

func puts(t *testing.T, s *store.Store, list ...api.Mutation) {
	t.Helper()
	for _, m := range list {
		if err := s.Put(m); err != nil {
			t.Fatalf("Put of %s: %v", shown(m), err)
		}
	}
}

func acks(t *testing.T, s *store.Store, o api.Order, code, words string) {
	t.Helper()
	if c, w, err := s.Order(o); c != code || w != words || err != nil {
		t.Fatalf("P12.10: %s: %q %q %v, not %q %q", shown(o), c, w, err, code, words)
	}
}

func stateIs(t *testing.T, what string, s *store.Store, want api.State) {
	t.Helper()
	if got := s.State(); !same(got, want) {
		t.Fatalf("%s: %s, not %s", what, shown(got), shown(want))
	}
}

// copyTells: what Open over a copy of the disk would tell.
func copyTells(t *testing.T, what string, d *disk.Disk, want api.State) {
	t.Helper()
	img := d.Image()
	img.Left = -1
	img.Config.Blocks = api.MaxBlocks
	stateIs(t, what, opens(t, loadDisk(t, img), 1), want)
}

// encoded is a mutation as the program lays it down.
func encoded(t *testing.T, m api.Mutation) []byte {
	t.Helper()
	b, err := store.Encode(m)
	if err != nil {
		t.Fatalf("Encode of %s: %v", shown(m), err)
	}
	return b
}

// slotDisk is a disk with one slot, laid down by hand.
func slotDisk(t *testing.T, gen uint64, base, records [][]byte) *disk.Disk {
	t.Helper()
	data, err := journal.Head(gen, base)
	if err != nil {
		t.Fatal(err)
	}
	for i, b := range records {
		f, err := journal.Frame(uint32(i), b)
		if err != nil {
			t.Fatal(err)
		}
		data = append(data, f...)
	}
	d := newDisk(t, api.MaxBlocks)
	for _, e := range []api.Errno{d.Create("slot.a"), d.Append("slot.a", data), d.Sync("slot.a"), d.SyncDir()} {
		if e != api.OK {
			t.Fatal(e)
		}
	}
	return d
}

// storeIn is a store that has this state.
func storeIn(t *testing.T, st api.State, compact int) (*store.Store, *disk.Disk) {
	t.Helper()
	list, err := store.Base(st)
	if err != nil {
		t.Fatal(err)
	}
	var base [][]byte
	for _, m := range list {
		base = append(base, encoded(t, m))
	}
	d := slotDisk(t, 5, base, nil)
	s := opens(t, d, compact)
	stateIs(t, "the store", s, st)
	return s, d
}

func long(text string, n int) string { return strings.Repeat(text, n) }
