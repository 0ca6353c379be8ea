package journal_test

import (
	"strings"
	"testing"

	"modality/api"
)

// Example 4, and P2.11: a commit without room changes nothing, and does not burn the fuse.
func TestCommitWithoutRoom(t *testing.T) {
	d := newDisk(t, 400, 4)
	j := opens(t, d, nil, nil)
	commits(t, j, "xy")
	d.Quota(2)
	d.Fuse(2)
	before, state := d.Image(), j.State()
	for range 3 {
		faulty(t, "no room", j.Commit(make([]byte, 600)), 0, api.ErrJournalFull)
		sameImage(t, "no room", d.Image(), before)
		stateIs(t, j, state)
	}
	commits(t, j, "q")
	d.Cut(api.PowerCut{})
	opens(t, d, nil, bodies("xy", "q"))
}

// The last byte of a block, and the next.
func TestCommitFillsABlock(t *testing.T) {
	d := newDisk(t, 2, 2)
	j := opens(t, d, nil, nil)
	full := strings.Repeat("x", 512-24-17)
	faulty(t, "one byte too many", j.Commit([]byte(full+"x")), 0, api.ErrJournalFull)
	commits(t, j, full)
	faulty(t, "a full block", j.Commit(nil), 0, api.ErrJournalFull)
	d.Quota(3)
	commits(t, j, "")
	d.Cut(api.PowerCut{})
	opens(t, d, nil, bodies(full, ""))
}

// P2.8: no room for the base; the journal goes on as it was.
func TestCompactWithoutRoom(t *testing.T) {
	j, d := started(t, "slot.a")
	state := j.State()
	d.Quota(1)
	before := d.Image()
	faulty(t, "no block for the other slot", j.Compact(nil), 0, api.ErrJournalFull)
	sameImage(t, "no block for the other slot", d.Image(), before)
	stateIs(t, j, state)
	d.Quota(2)
	faulty(t, "no room for the base", j.Compact(bodies(strings.Repeat("b", 600))), 2, api.ErrJournalFull)
	stateIs(t, j, state)
	sizeIs(t, d, "slot.b", 0)
	if d.Used() != 2 {
		t.Errorf("used: %d", d.Used())
	}
	commits(t, j, "more")
	d.Cut(api.PowerCut{})
	j = opens(t, d, bodies("b"), bodies("r", "s", "more"))
	faulty(t, "no room for the base", j.Compact(bodies(strings.Repeat("b", 600))), 2, api.ErrJournalFull)
	compacts(t, j, "small")
	d.Cut(api.PowerCut{})
	opens(t, d, bodies("small"), nil)
}

func TestCompactWithoutNamesOrNumbers(t *testing.T) {
	d := newDisk(t, 20, 1)
	put(t, d, "slot.b", slotOf(4, nil, bodies("r")))
	j := opens(t, d, nil, bodies("r"))
	before := d.Image()
	faulty(t, "no name", j.Compact(nil), 0, api.ErrJournalFull)
	sameImage(t, "no name", d.Image(), before)
	commits(t, j, "s")
	opens(t, d, nil, bodies("r", "s"))

	d = newDisk(t, 20, 4)
	put(t, d, "slot.b", slotOf(4, nil, bodies("r")))
	img := d.Image()
	img.Next = api.MaxNodeNum + 1
	d = loadDisk(t, img)
	j = opens(t, d, nil, bodies("r"))
	faulty(t, "no number", j.Compact(nil), 0, api.ErrJournalFull)
	commits(t, j, "s")
	opens(t, d, nil, bodies("r", "s"))
}

// P2.11: a base gives the records' room back.
func TestCompactGivesRoomBack(t *testing.T) {
	d := newDisk(t, 6, 2)
	j := opens(t, d, nil, nil)
	body := strings.Repeat("x", 200)
	for round := range 5 {
		taken := 0
		for j.Commit([]byte(body)) == nil {
			taken++
		}
		if taken < 11 || j.State().Broken {
			t.Fatalf("round %d: %d records; %+v", round, taken, j.State())
		}
		compacts(t, j, "b")
		if d.Used() != 2 {
			t.Fatalf("used: %d", d.Used())
		}
	}
	d.Cut(api.PowerCut{})
	opens(t, d, bodies("b"), nil)
}
