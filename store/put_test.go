package store_test

import (
	"fmt"
	"math"
	"testing"

	"modality/api"
	"modality/disk"
	"modality/journal"
	"modality/store"
)

// journalOf tells what a journal over a copy of the disk would find.
func journalOf(t *testing.T, d *disk.Disk) (gen uint64, base, records [][]byte) {
	t.Helper()
	img := d.Image()
	img.Left = -1
	j, base, records, err := journal.Open(loadDisk(t, img))
	if err != nil {
		t.Fatal(err)
	}
	return j.State().Gen, base, records
}

// baseOf is a base as it lies in the journal.
func baseOf(t *testing.T, st api.State) [][]byte {
	t.Helper()
	list, err := store.Base(st)
	if err != nil {
		t.Fatal(err)
	}
	var out [][]byte
	for _, m := range list {
		out = append(out, encoded(t, m))
	}
	return out
}

// TestPutSmall: P12.9: every small mutation in every small state: as Apply, and a refused one leaves the disk's image.
func TestPutSmall(t *testing.T) {
	for i, st := range smallStates() {
		for k, m := range smallMutations() {
			if (i+k)%13 != 0 {
				continue
			}
			s, d := storeIn(t, st, 1000)
			before := d.Image()
			want, refusal := store.Apply(st, m)
			err := s.Put(m)
			if refusal == nil && err != nil || refusal != nil && !same(err, refusal) {
				t.Fatalf("P12.9: %s in %s: %v, not %v", shown(m), shown(st), err, refusal)
			}
			if refusal != nil {
				want = st
				if !same(d.Image(), before) {
					t.Fatalf("P12.14: %s in %s: the disk has changed", shown(m), shown(st))
				}
			}
			stateIs(t, "P12.9", s, want)
			copyTells(t, "P12.13", d, want)
		}
	}
}

// TestPutRecord: P12.9: a mutation is one record: its bytes, behind those ahead.
func TestPutRecord(t *testing.T) {
	d := newDisk(t, 100)
	s := opens(t, d, 1)
	var want [][]byte
	for _, m := range []api.Mutation{putSteps("M", row("A"), full("B")), performed(perf("1.1", 1), moves(2, "B")...), gone("N", "A"), performed(perf("1.1", 2), moves(3, "B")...)} {
		puts(t, s, m)
		want = append(want, encoded(t, m))
		gen, base, records := journalOf(t, d)
		if gen != 1 || base != nil || !same(records, want) {
			t.Fatalf("P12.9: generation %d, %d, %d records", gen, len(base), len(records))
		}
	}
}

// TestPutRefused: P12.9: what Formed refuses, just so; the store goes on.
func TestPutRefused(t *testing.T) {
	s, d := storeIn(t, api.State{Control: "M"}, 5)
	before := d.Image()
	for kind := api.MStep; kind <= api.MBase; kind++ {
		for _, x := range turnsOf(t, kind) {
			if m := whole(kind); !x.good {
				x.make(&m)
				refused(t, "P12.9: "+x.name, s.Put(m), x.field, api.ErrStoreMutation)
			}
		}
	}
	refused(t, "P12.9", s.Put(api.Mutation{}), 0, api.ErrStoreMutation)
	refused(t, "P12.9", s.Put(based("N")), 0, api.ErrStoreReplay)
	refused(t, "the document's example 5", s.Put(performed(perf("1.2.3", api.PerfCompleted))), 4, api.ErrStoreReplay)
	if !same(d.Image(), before) {
		t.Error("P12.14: the disk has changed")
	}
	puts(t, s, putSteps("N", row("A")))
}

// scene is a store on a disk that has no room for the record of next.
type scene struct {
	name  string
	store *store.Store
	disk  *disk.Disk
	next  api.Mutation
}

// worn has many records: a base makes room for the next one.
func worn(t *testing.T) scene {
	d := newDisk(t, 100)
	s := opens(t, d, 1000)
	puts(t, s, putSteps("M", row("A")))
	for i := range 12 {
		x := row("A")
		x.Desc = long("x", 60)
		puts(t, s, putSteps(fmt.Sprint(i), x))
	}
	d.Quota(d.Used())
	return scene{"worn", s, d, putSteps("N", rows(ids(5)...)...)}
}

// tight has rows whose base has no room beside its records.
func tight(t *testing.T) scene {
	d := newDisk(t, 100)
	s := opens(t, d, 1000)
	puts(t, s, putSteps("M", rows(ids(8)...)...))
	d.Quota(d.Used())
	return scene{"tight", s, d, putSteps("N", rows(ids(16)[8:]...)...)}
}

// small has room for its base, but for the next record not even then.
func small(t *testing.T) scene {
	d := newDisk(t, 100)
	s := opens(t, d, 1000)
	puts(t, s, putSteps("M", row("A")))
	d.Quota(d.Used())
	return scene{"small", s, d, putSteps("N", rows(ids(8)...)...)}
}

// last has no generation behind its own.
func last(t *testing.T) scene {
	d := slotDisk(t, math.MaxUint64, [][]byte{encoded(t, based("M"))}, nil)
	s := opens(t, d, 1000)
	puts(t, s, putSteps("N", row("A")))
	d.Quota(d.Used())
	return scene{"last", s, d, putSteps("O", rows(ids(8)...)...)}
}

// TestPutTakesBase: P12.9: the base of the state without the mutation, and behind it the record.
func TestPutTakesBase(t *testing.T) {
	x := worn(t)
	before := x.store.State()
	gen, _, records := journalOf(t, x.disk)
	if len(records) != 13 {
		t.Fatal(len(records))
	}
	puts(t, x.store, x.next)
	want, _ := modelApply(before, x.next)
	stateIs(t, "P12.9", x.store, want)
	then, base, records := journalOf(t, x.disk)
	if then != gen+1 || !same(base, baseOf(t, before)) || !same(records, [][]byte{encoded(t, x.next)}) {
		t.Fatalf("P12.9: generation %d, %d in the base, %d records", then, len(base), len(records))
	}
	copyTells(t, "P12.13", x.disk, want)
}

// TestPutFull: P12.9, P12.14: no room for record and base, or for the record behind the base, or no generation: the state stays, on the disk too; with room all goes on.
func TestPutFull(t *testing.T) {
	for _, x := range []scene{tight(t), small(t), last(t)} {
		before, img := x.store.State(), x.disk.Image()
		gen, _, _ := journalOf(t, x.disk)
		for range 3 {
			refused(t, "P12.9: "+x.name, x.store.Put(x.next), 0, api.ErrStoreFull)
			stateIs(t, "P12.14: "+x.name, x.store, before)
			copyTells(t, "P12.14: "+x.name, x.disk, before)
		}
		then, base, records := journalOf(t, x.disk)
		if x.name != "small" && !same(x.disk.Image(), img) {
			t.Errorf("P12.9: %s: the disk has changed", x.name)
		}
		if x.name == "small" && (then <= gen || !same(base, baseOf(t, before)) || records != nil) {
			t.Errorf("P12.9: %s: generation %d, %d in the base, %d records", x.name, then, len(base), len(records))
		}
		refused(t, "P12.9: what does not fit comes first", x.store.Put(putSteps("Q", rowOf("Q", 2))), 2, api.ErrStoreReplay)
		x.disk.Quota(100)
		puts(t, x.store, x.next)
		want, _ := modelApply(before, x.next)
		stateIs(t, "P12.9: "+x.name, x.store, want)
		copyTells(t, "P12.9: "+x.name, x.disk, want)
	}
}

// isOff: the store tells its state as it was, and takes nothing any more, with power or without.
func isOff(t *testing.T, what string, s *store.Store, d *disk.Disk, st api.State) {
	t.Helper()
	for range 2 {
		img := d.Image()
		for _, m := range []api.Mutation{putSteps("Q", row("Q")), {}, based("M"), putSteps("Q", rowOf("Q", 2))} {
			refused(t, what, s.Put(m), 0, api.ErrStoreOff)
		}
		for _, o := range []api.Order{{}, {Control: st.Control}, {Control: "Q", Verb: api.OrderNew, Steps: rows("Q")}, {Code: "AE", Words: "x"}} {
			code, words, err := s.Order(o)
			if code != "" || words != "" || !is(err, api.ErrStoreOff, 0) {
				t.Fatalf("P12.10: %s: %q, %q, %v", what, code, words, err)
			}
		}
		refused(t, what, s.Compact(), 0, api.ErrStoreOff)
		stateIs(t, what, s, st)
		if !same(s.Steps(), st.Steps) {
			t.Fatalf("P12.9: %s: other steps", what)
		}
		if !same(d.Image(), img) {
			t.Fatalf("P12.9: %s: a store that is off writes", what)
		}
		d.Cut(api.PowerCut{})
	}
}

// TestPutOff: P12.9: the power goes at every write of a Put, with a base and without.
func TestPutOff(t *testing.T) {
	plenty := func(t *testing.T) scene { x := tight(t); x.name = "plenty"; x.disk.Quota(100); return x }
	for _, make := range []func(*testing.T) scene{worn, tight, small, plenty, last} {
		writes := 0
		for ; ; writes++ {
			x := make(t)
			before := x.store.State()
			x.disk.Fuse(writes)
			err := x.store.Put(x.next)
			if !is(err, api.ErrStoreOff, 0) {
				if writes == 0 || x.disk.Image().Left > 1 {
					t.Fatalf("P12.9: %s: %v with the power off, %d writes left", x.name, err, x.disk.Image().Left)
				}
				break
			}
			isOff(t, fmt.Sprintf("P12.9: %s, %d writes", x.name, writes), x.store, x.disk, before)
		}
		t.Logf("%d writes", writes)
	}
}
