package journal_test

import (
	"bytes"
	"fmt"
	"testing"

	"modality/api"
	"modality/disk"
	"modality/journal"
)

var firstHead = slotOf(1, nil, nil)

// Example 1, and P2.6's beginning.
func TestOpenBegins(t *testing.T) {
	d := newDisk(t, 400, 4)
	j := opens(t, d, nil, nil)
	sizeIs(t, d, "slot.a", 24)
	sizeIs(t, d, "slot.b", 0)
	stateIs(t, j, api.JournalState{Gen: 1, Size: 24, Slot: "slot.a"})
	if b, _ := d.Read("slot.a", 0, 24); !bytes.Equal(b, firstHead) {
		t.Errorf("slot.a: % x", b)
	}
	commits(t, j, "xy")
	sizeIs(t, d, "slot.a", 43)
	d.Cut(api.PowerCut{})
	opens(t, d, nil, bodies("xy"))
}

// beginning is the list of writes, by what is there.
func beginning(a, b string) []write {
	var list []write
	if a == "none" {
		list = append(list, create(0, "slot.a"))
	} else if a != "" {
		list = append(list, cut(1, "slot.a", 0))
	}
	list = append(list, lay(2, "slot.a", firstHead), hold(3, "slot.a"))
	if b == "none" {
		list = append(list, create(4, "slot.b"))
	} else if b != "" {
		list = append(list, cut(5, "slot.b", 0))
	}
	return append(list, hold(6, "slot.b"), holdDir(7))
}

func putUnless(t *testing.T, d *disk.Disk, name, data string) {
	t.Helper()
	if data != "none" {
		put(t, d, name, []byte(data))
	}
}

func TestOpenBeginsOnWhatIsThere(t *testing.T) {
	short := string(firstHead[:23])
	spoilt := string(bytes.Repeat([]byte{7}, 24))
	kinds := []string{"none", "", "x", short, spoilt}
	for _, a := range kinds {
		for _, b := range kinds {
			d := newDisk(t, 9, 4)
			putUnless(t, d, "slot.a", a)
			putUnless(t, d, "slot.b", b)
			what := fmt.Sprintf("%q %q", a, b)
			j := openAsTwin(t, what, d.Image(), beginning(a, b))
			stateIs(t, j, api.JournalState{Gen: 1, Size: 24, Slot: "slot.a"})
			opens(t, d, nil, nil)
		}
	}
}

// A beginning needs room: blocks, names, numbers.
func TestOpenBeginsWithoutRoom(t *testing.T) {
	for _, c := range []struct {
		what          string
		blocks, names int
		at            int
	}{
		{"one block", 1, 4, 4},
		{"one name", 9, 1, 4},
		{"two of each", 2, 2, -1},
	} {
		d := newDisk(t, c.blocks, c.names)
		if c.at < 0 {
			opens(t, d, nil, nil)
			continue
		}
		openRefused(t, c.what, d, c.at, api.ErrJournalFull)
		sizeIs(t, d, "slot.a", 24)
	}
	d := newDisk(t, 9, 2)
	d.Quota(0)
	openRefused(t, "no block", d, 0, api.ErrJournalFull)

	d = newDisk(t, 9, 1)
	put(t, d, "else", nil)
	openRefused(t, "no name", d, 0, api.ErrJournalFull)

	img := newDisk(t, 9, 4).Image()
	img.Next = api.MaxNodeNum + 1
	openRefused(t, "no number", loadDisk(t, img), 0, api.ErrJournalFull)
	img.Next = api.MaxNodeNum
	openRefused(t, "one number", loadDisk(t, img), 4, api.ErrJournalFull)

	d = newDisk(t, 9, 4)
	put(t, d, "slot.a", nil)
	d.Quota(0)
	openRefused(t, "room in slot.a's block alone", d, 4, api.ErrJournalFull)
}

// P2.6: a current slot.
func TestOpenResumes(t *testing.T) {
	base, records := bodies("b", ""), bodies("r", "", "rr")
	whole := slotOf(7, base, records)
	for _, c := range []struct {
		what   string
		cur    string
		tail   string
		other  string
		writes func(cur, other string) []write
	}{
		{"alone", "slot.a", "", "none", func(cur, _ string) []write {
			return []write{hold(1, cur), holdDir(2)}
		}},
		{"alone, torn", "slot.b", "tail", "none", func(cur, _ string) []write {
			return []write{cut(0, cur, len(whole)), hold(1, cur), holdDir(2)}
		}},
		{"an empty other", "slot.a", "", "", func(cur, other string) []write {
			return []write{hold(1, cur), holdDir(2), hold(4, other)}
		}},
		{"torn, an empty other", "slot.b", "\xa5", "", func(cur, other string) []write {
			return []write{cut(0, cur, len(whole)), hold(1, cur), holdDir(2), hold(4, other)}
		}},
		{"an other that is not whole", "slot.a", "", "x", func(cur, other string) []write {
			return []write{hold(1, cur), holdDir(2), cut(3, other, 0), hold(4, other)}
		}},
		{"torn, a long other that is not whole", "slot.a", "y", string(make([]byte, 3000)), func(cur, other string) []write {
			return []write{cut(0, cur, len(whole)), hold(1, cur), holdDir(2), cut(3, other, 0), hold(4, other)}
		}},
		{"an older other", "slot.b", "y", string(slotOf(6, nil, bodies("old"))), func(cur, other string) []write {
			return []write{cut(0, cur, len(whole)), hold(1, cur), holdDir(2), cut(3, other, 0), hold(4, other)}
		}},
	} {
		other := map[string]string{"slot.a": "slot.b", "slot.b": "slot.a"}[c.cur]
		d := newDisk(t, 20, 4)
		put(t, d, c.cur, append(bytes.Clone(whole), c.tail...))
		putUnless(t, d, other, c.other)
		openAsTwin(t, c.what, d.Image(), c.writes(c.cur, other))
		d.Quota(0) // no room is needed
		j := opens(t, d, base, records)
		stateIs(t, j, api.JournalState{Gen: 7, Base: 2, Records: 3, Size: len(whole), Slot: c.cur})
		sizeIs(t, d, c.cur, len(whole))
		if c.other != "none" {
			sizeIs(t, d, other, 0)
		}
		opens(t, d, base, records)
	}
}

// Of two slots that are whole the greater generation, of one generation slot.a.
func TestOpenChooses(t *testing.T) {
	for _, c := range []struct {
		a, b uint64
		want string
	}{
		{1, 2, "slot.b"}, {2, 1, "slot.a"}, {5, 5, "slot.a"}, {1, 1, "slot.a"},
		{1 << 40, 3, "slot.a"}, {3, 1 << 40, "slot.b"}, {1 << 63, 1<<64 - 1, "slot.b"}, {1<<64 - 1, 1, "slot.a"},
	} {
		d := newDisk(t, 20, 4)
		put(t, d, "slot.b", slotOf(c.b, bodies("slot.b"), bodies("r")))
		put(t, d, "slot.a", slotOf(c.a, bodies("slot.a"), bodies("r")))
		j := opens(t, d, bodies(c.want), bodies("r"))
		stateIs(t, j, api.JournalState{Gen: max(c.a, c.b), Base: 1, Records: 1, Size: 24 + 23 + 18, Slot: c.want})
	}
	// more bytes do not make a slot greater, nor does a slot that is not whole
	d := newDisk(t, 90, 4)
	put(t, d, "slot.a", slotOf(1, nil, bodies("r")))
	put(t, d, "slot.b", append(rawHead(magic, 9, 1, 1000), make([]byte, 999)...))
	opens(t, d, nil, bodies("r"))
	sizeIs(t, d, "slot.b", 0)
}

// Example 6, and the other slots that no journal leaves.
func TestOpenLost(t *testing.T) {
	long := string(bytes.Repeat([]byte{7}, 25))
	spoilt := string(turned(slotOf(3, bodies("b"), nil), 8*30, 1))
	for _, c := range []struct{ a, b string }{
		{long, "none"}, {"none", long}, {long, ""}, {"", long}, {long, long}, {string(make([]byte, 25)), "x"}, {"x", long},
		{spoilt, "none"}, {spoilt, spoilt}, {long + long, "none"},
	} {
		d := newDisk(t, 20, 4)
		putUnless(t, d, "slot.a", c.a)
		putUnless(t, d, "slot.b", c.b)
		before := d.Image()
		openRefused(t, "lost", d, 0, api.ErrJournalLost)
		sameImage(t, "lost", d.Image(), before)
	}
}

func TestOpenRefuses(t *testing.T) {
	openRefused(t, "nil", nil, 0, api.ErrZero)
	openRefused(t, "a plain disk", &disk.Disk{}, 0, api.ErrZero)
	for _, name := range []string{"slot.a", "slot.b", "else"} {
		d := newDisk(t, 20, 4)
		put(t, d, name, slotOf(1, nil, bodies("r")))
		d.Fuse(0)
		before := d.Image()
		openRefused(t, "no power", d, 0, api.ErrJournalOff)
		sameImage(t, "no power", d.Image(), before)
	}
	d := newDisk(t, 20, 4)
	d.Fuse(0)
	openRefused(t, "a new disk without power", d, 0, api.ErrJournalOff)
	d = newDisk(t, 20, 4)
	put(t, d, "slot.a", make([]byte, 99))
	d.Fuse(0)
	openRefused(t, "lost, and no power", d, 0, api.ErrJournalOff)
}

// Other files are none of its business.
func TestOpenLeavesOtherFiles(t *testing.T) {
	d := newDisk(t, 20, 4)
	put(t, d, "else", []byte("something"))
	j := opens(t, d, nil, nil)
	commits(t, j, "r")
	compacts(t, j, "b")
	if b, _ := d.Read("else", 0, 99); string(b) != "something" {
		t.Errorf("else: %q", b)
	}
}

// The names are held ahead of the other slot's clearing: on a disk that was not cut the current slot's may be pending.
func TestOpenHoldsThePendingName(t *testing.T) {
	d := newDisk(t, 20, 4)
	put(t, d, "slot.a", slotOf(1, nil, bodies("old")))
	d.Create("slot.b")
	d.Append("slot.b", slotOf(2, bodies("new"), nil))
	opens(t, d, bodies("new"), nil)
	d.Cut(api.PowerCut{})
	opens(t, d, bodies("new"), nil)
}

// Open tells, and the journal goes on, on either slot.
func TestOpenGoesOn(t *testing.T) {
	for _, name := range []string{"slot.a", "slot.b"} {
		d := newDisk(t, 20, 4)
		put(t, d, name, append(slotOf(4, bodies("b"), bodies("r")), "torn"...))
		j := opens(t, d, bodies("b"), bodies("r"))
		commits(t, j, "s", "")
		d.Cut(api.PowerCut{})
		j = opens(t, d, bodies("b"), bodies("r", "s", ""))
		compacts(t, j, "c")
		commits(t, j, "t")
		d.Cut(api.PowerCut{})
		j = opens(t, d, bodies("c"), bodies("t"))
		if s := j.State(); s.Gen != 5 || s.Slot == name {
			t.Errorf("state %+v", s)
		}
	}
}

func TestPlainJournal(t *testing.T) {
	var none *journal.Journal
	for _, j := range []*journal.Journal{none, {}} {
		faulty(t, "Commit", j.Commit([]byte("x")), 0, api.ErrZero)
		faulty(t, "Commit of a long body", j.Commit(make([]byte, 131073)), 0, api.ErrZero)
		faulty(t, "Compact", j.Compact(nil), 0, api.ErrZero)
		faulty(t, "Compact of many", j.Compact(make([][]byte, 601)), 0, api.ErrZero)
		stateIs(t, j, api.JournalState{})
	}
}
