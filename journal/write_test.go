package journal_test

import (
	"fmt"
	"strings"
	"testing"

	"modality/api"
	"modality/disk"
	"modality/journal"
)

// started gives a journal with a base and records on the slot, and its disk.
func started(t *testing.T, slot string) (*journal.Journal, *disk.Disk) {
	t.Helper()
	d := newDisk(t, 20, 4)
	put(t, d, slot, slotOf(4, bodies("b"), bodies("r", "s")))
	return opens(t, d, bodies("b"), bodies("r", "s")), d
}

func swapped(slot string) string {
	if slot == "slot.a" {
		return "slot.b"
	}
	return "slot.a"
}

// P2.7: append and sync, with every fuse.
func TestCommitWrites(t *testing.T) {
	for _, slot := range []string{"slot.a", "slot.b"} {
		for _, body := range []string{"", "z", strings.Repeat("long", 700)} {
			writes := []write{lay(0, slot, frame(2, []byte(body))), hold(1, slot)}
			for fuse := -1; fuse <= 3; fuse++ {
				j, d := started(t, slot)
				before := j.State()
				d.Fuse(fuse)
				_, e := asTwin(t, fmt.Sprint("fuse ", fuse), d, writes, func() error { return j.Commit([]byte(body)) })
				if e != api.OK {
					before.Broken = true
					stateIs(t, j, before)
					continue
				}
				before.Records++
				before.Size += 17 + len(body)
				stateIs(t, j, before)
				if fuse < 0 {
					opens(t, d, bodies("b"), bodies("r", "s", body))
				}
			}
		}
	}
}

// Example 2.
func TestCommitBrokenOff(t *testing.T) {
	for units, want := range map[int][][]byte{0: bodies("xy"), 1: bodies("xy"), 17: bodies("xy"), 18: bodies("xy", "z"), 99: bodies("xy", "z")} {
		d := newDisk(t, 400, 4)
		j := opens(t, d, nil, nil)
		commits(t, j, "xy")
		d.Fuse(1)
		faulty(t, "Commit", j.Commit([]byte("z")), 1, api.ErrJournalOff)
		d.Cut(api.PowerCut{Files: []api.DiskKeep{{Id: 1, Units: units}}})
		// broken for good, though the power is back
		faulty(t, "Commit", j.Commit([]byte("z")), 0, api.ErrJournalBroken)
		j = opens(t, d, nil, want)
		sizeIs(t, d, "slot.a", 24+len(frames(want)))
		commits(t, j, "w")
		d.Cut(api.PowerCut{})
		opens(t, d, nil, append(want, []byte("w")))
	}
}

func TestCommitLimits(t *testing.T) {
	d := newDisk(t, 4000, 4)
	j := opens(t, d, nil, nil)
	long := make([]byte, 131073)
	before := d.Image()
	faulty(t, "one byte too long", j.Commit(long), 0, api.ErrJournalLong)
	sameImage(t, "one byte too long", d.Image(), before)
	stateIs(t, j, api.JournalState{Gen: 1, Size: 24, Slot: "slot.a"})
	commits(t, j, string(long[1:]), "")
	stateIs(t, j, api.JournalState{Gen: 1, Records: 2, Size: 24 + 17 + 131072 + 17, Slot: "slot.a"})
	d.Cut(api.PowerCut{})
	opens(t, d, nil, [][]byte{long[1:], nil})
}

// What a broken journal answers, whatever it is given.
func TestBroken(t *testing.T) {
	for _, how := range []func(j *journal.Journal) error{
		func(j *journal.Journal) error { return j.Commit([]byte("z")) },
		func(j *journal.Journal) error { return j.Compact(bodies("z")) },
	} {
		j, d := started(t, "slot.a")
		before := j.State()
		d.Fuse(0)
		if err := how(j); !isErr(err, api.ErrJournalOff) {
			t.Fatal(err)
		}
		before.Broken = true
		stateIs(t, j, before)
		d.Cut(api.PowerCut{})
		img := d.Image()
		faulty(t, "Commit", j.Commit([]byte("z")), 0, api.ErrJournalBroken)
		faulty(t, "Commit of a long body", j.Commit(make([]byte, 131073)), 0, api.ErrJournalBroken)
		faulty(t, "Compact", j.Compact(bodies("z")), 0, api.ErrJournalBroken)
		faulty(t, "Compact of many", j.Compact(make([][]byte, 601)), 0, api.ErrJournalBroken)
		faulty(t, "Compact of a long body", j.Compact([][]byte{nil, make([]byte, 131073)}), 0, api.ErrJournalBroken)
		sameImage(t, "broken", d.Image(), img)
		stateIs(t, j, before)
	}
}

// A disk on which somebody else has written refuses otherwise: that breaks too.
func TestBrokenByOthers(t *testing.T) {
	j, d := started(t, "slot.a")
	d.Remove("slot.a")
	faulty(t, "Commit", j.Commit([]byte("z")), 0, api.ErrJournalOff)
	faulty(t, "Commit", j.Commit([]byte("z")), 0, api.ErrJournalBroken)
	j, d = started(t, "slot.a")
	d.Remove("slot.a")
	faulty(t, "Compact", j.Compact(nil), 5, api.ErrJournalOff)
	faulty(t, "Compact", j.Compact(nil), 0, api.ErrJournalBroken)
}

// P2.8: all writes, with every fuse, by what the other slot is.
func TestCompactWrites(t *testing.T) {
	for _, slot := range []string{"slot.a", "slot.b"} {
		for _, kind := range []string{"none", "", "bytes"} {
			for _, base := range [][][]byte{nil, bodies("S"), bodies("one", "", strings.Repeat("three", 300))} {
				for fuse := -1; fuse <= 8; fuse++ {
					compactAsTwin(t, slot, kind, base, fuse)
				}
			}
		}
	}
}

func compactAsTwin(t *testing.T, slot, kind string, base [][]byte, fuse int) {
	t.Helper()
	j, d := started(t, slot)
	o := swapped(slot)
	putUnless(t, d, o, kind)
	var writes []write
	switch {
	case fuse == 0: // what the other slot has can't be seen
	case kind == "none":
		writes = append(writes, create(0, o))
	case kind != "":
		writes = append(writes, cut(1, o, 0))
	}
	head := slotOf(5, base, nil)
	writes = append(writes, lay(2, o, head), hold(3, o), holdDir(4), cut(5, slot, 0), hold(6, slot))
	before := j.State()
	d.Fuse(fuse)
	what := fmt.Sprint(slot, " ", kind, " fuse ", fuse)
	_, e := asTwin(t, what, d, writes, func() error { return j.Compact(base) })
	if e != api.OK {
		before.Broken = true
		stateIs(t, j, before)
		return
	}
	stateIs(t, j, api.JournalState{Gen: 5, Base: len(base), Size: len(head), Slot: o})
	if fuse >= 0 {
		return
	}
	commits(t, j, "next")
	d.Cut(api.PowerCut{})
	opens(t, d, base, bodies("next"))
}

// Example 3.
func TestCompactBrokenOff(t *testing.T) {
	for _, units := range []int{0, 1} {
		d := newDisk(t, 400, 4)
		j := opens(t, d, nil, nil)
		commits(t, j, "xy")
		d.Fuse(3)
		faulty(t, "Compact", j.Compact(bodies("S")), 5, api.ErrJournalOff)
		d.Cut(api.PowerCut{Files: []api.DiskKeep{{Id: 1, Units: units}}})
		sizeIs(t, d, "slot.a", 43)
		opens(t, d, bodies("S"), nil)
		sizeIs(t, d, "slot.a", 0)
		sizeIs(t, d, "slot.b", 42)
	}
}

func TestCompactLimits(t *testing.T) {
	d := newDisk(t, 4000, 4)
	j := opens(t, d, nil, nil)
	commits(t, j, "r")
	before, state := d.Image(), j.State()
	long := make([]byte, 131073)
	faulty(t, "601 bodies", j.Compact(make([][]byte, 601)), 0, api.ErrJournalBase)
	faulty(t, "601 bodies, one long", j.Compact(append(make([][]byte, 600), long)), 0, api.ErrJournalBase)
	faulty(t, "a long body", j.Compact([][]byte{nil, nil, long, long}), 2, api.ErrJournalLong)
	sameImage(t, "refused", d.Image(), before)
	stateIs(t, j, state)
	base := make([][]byte, 600)
	base[599] = long[1:]
	if err := j.Compact(base); err != nil {
		t.Fatal(err)
	}
	stateIs(t, j, api.JournalState{Gen: 2, Base: 600, Size: 24 + 600*17 + 131072, Slot: "slot.b"})
	d.Cut(api.PowerCut{})
	opens(t, d, base, nil)
}

// The last generation.
func TestCompactEnd(t *testing.T) {
	d := newDisk(t, 20, 4)
	put(t, d, "slot.a", slotOf(1<<64-2, nil, bodies("r")))
	j := opens(t, d, nil, bodies("r"))
	compacts(t, j, "b")
	stateIs(t, j, api.JournalState{Gen: 1<<64 - 1, Base: 1, Size: 42, Slot: "slot.b"})
	before := d.Image()
	faulty(t, "Compact", j.Compact(nil), 0, api.ErrJournalEnd)
	faulty(t, "Compact of many", j.Compact(make([][]byte, 601)), 0, api.ErrJournalBase)
	faulty(t, "Compact of a long body", j.Compact([][]byte{nil, make([]byte, 131073)}), 1, api.ErrJournalLong)
	sameImage(t, "refused", d.Image(), before)
	commits(t, j, "goes on")
	opens(t, d, bodies("b"), bodies("goes on"))
}
