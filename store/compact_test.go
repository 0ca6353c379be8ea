package store_test

import (
	"fmt"
	"math"
	"testing"

	"modality/api"
)

// TestCompactCount: P12.11: a base is taken with compact records or more, and not ahead of that.
func TestCompactCount(t *testing.T) {
	for _, compact := range []int{1, 2, 3, 7, 1000} {
		d := newDisk(t, 2000)
		s := opens(t, d, compact)
		for n := range min(2*compact, 1010) {
			puts(t, s, putSteps(fmt.Sprint(n), row("A")))
			before := s.State()
			gen, base, records := journalOf(t, d)
			img := d.Image()
			if err := s.Compact(); err != nil {
				t.Fatalf("P12.11: %v", err)
			}
			stateIs(t, "P12.11", s, before)
			if len(records) < compact {
				if !same(d.Image(), img) {
					t.Fatalf("P12.11: %d of %d records, and the disk has changed", len(records), compact)
				}
				continue
			}
			then, nowBase, left := journalOf(t, d)
			if len(records) > compact || then != gen+1 || !same(nowBase, baseOf(t, before)) || left != nil || same(nowBase, base) {
				t.Fatalf("P12.11: %d records, generation %d, %d in the base, %d records left", len(records), then, len(nowBase), len(left))
			}
		}
	}
}

// TestCompactNothing: P12.11: a new store has no records; a base is not taken twice.
func TestCompactNothing(t *testing.T) {
	d := newDisk(t, 100)
	s := opens(t, d, 1)
	for range 3 {
		img := d.Image()
		if err := s.Compact(); err != nil || !same(d.Image(), img) {
			t.Fatalf("P12.11: %v", err)
		}
	}
	puts(t, s, putSteps("M", row("A")), performed(perf("1.1", 1), moves(2, "A")...))
	want := s.State()
	for range 3 {
		if err := s.Compact(); err != nil {
			t.Fatal(err)
		}
		if gen, base, records := journalOf(t, d); gen != 2 || len(base) != 3 || records != nil {
			t.Fatalf("P12.11: generation %d, %d, %d", gen, len(base), len(records))
		}
		stateIs(t, "P12.11", s, want)
		copyTells(t, "P12.13", d, want)
	}
	opened := opens(t, d, 1)
	stateIs(t, "P12.8: a base alone", opened, want)
}

// TestCompactPutOff: P12.11: want of room or of a generation is no refusal, and is tried again.
func TestCompactPutOff(t *testing.T) {
	d := newDisk(t, 100)
	s := opens(t, d, 1)
	puts(t, s, putSteps("M", rows(ids(8)...)...))
	d.Quota(d.Used())
	before, img := s.State(), d.Image()
	for range 3 {
		if err := s.Compact(); err != nil || !same(d.Image(), img) {
			t.Fatalf("P12.11: put off: %v", err)
		}
	}
	stateIs(t, "P12.11", s, before)
	d.Quota(100)
	if err := s.Compact(); err != nil {
		t.Fatal(err)
	}
	if gen, base, records := journalOf(t, d); gen != 2 || !same(base, baseOf(t, before)) || records != nil {
		t.Fatalf("P12.11: generation %d, %d, %d", gen, len(base), len(records))
	}

	x := slotDisk(t, math.MaxUint64, [][]byte{encoded(t, based("M"))}, [][]byte{encoded(t, putSteps("N", row("A")))})
	s = opens(t, x, 1)
	img = x.Image()
	if err := s.Compact(); err != nil || !same(x.Image(), img) {
		t.Fatalf("P12.11: no generation: %v", err)
	}
	puts(t, s, putSteps("O", row("B")))
	stateIs(t, "P12.11: commits go on", s, api.State{Control: "O", Steps: rows("A", "B")})
}

// TestCompactOff: P12.11: the power goes at every write of a base.
func TestCompactOff(t *testing.T) {
	for writes := 0; ; writes++ {
		d := newDisk(t, 100)
		s := opens(t, d, 2)
		puts(t, s, putSteps("M", row("A")), putSteps("N", row("B")))
		before := s.State()
		d.Fuse(writes)
		err := s.Compact()
		if err == nil {
			if writes < 5 {
				t.Fatalf("P12.11: a base with %d writes", writes)
			}
			return
		}
		refused(t, "P12.11", err, 0, api.ErrStoreOff)
		isOff(t, "P12.11", s, d, before)
	}
}

// TestCompactWithoutPower: P12.11: where nothing is due the power is not asked for.
func TestCompactWithoutPower(t *testing.T) {
	d := newDisk(t, 100)
	s := opens(t, d, 2)
	puts(t, s, putSteps("M", row("A")))
	d.Fuse(0)
	if err := s.Compact(); err != nil {
		t.Fatalf("P12.11: %v", err)
	}
	refused(t, "P12.9", s.Put(putSteps("N", row("B"))), 0, api.ErrStoreOff)
	refused(t, "P12.11", s.Compact(), 0, api.ErrStoreOff)
}
