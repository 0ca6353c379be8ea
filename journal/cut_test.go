package journal_test

import (
	"fmt"
	"iter"
	"math/rand/v2"
	"slices"
	"strings"
	"testing"

	"modality/api"
	"modality/disk"
	"modality/journal"
)

// P2.10: a model of what may be there. Each content is a base and records, as one text.

type content struct{ base, records []string }

func (c content) String() string { return fmt.Sprintf("%q %q", c.base, c.records) }

func texts(list [][]byte) []string {
	var out []string
	for _, b := range list {
		out = append(out, string(b))
	}
	return out
}

// model is what a journal must tell: sure, or, if a call was broken off, perhaps what that call would have left.
type model struct {
	sure    content
	perhaps *content
}

func (m model) allows(c content) bool {
	return c.String() == m.sure.String() || m.perhaps != nil && c.String() == m.perhaps.String()
}

// open opens the disk; what it tells is sure from then on.
func (m *model) open(t *testing.T, d *disk.Disk) (*journal.Journal, error) {
	t.Helper()
	j, b, r, err := journal.Open(d)
	if err != nil {
		return nil, err
	}
	got := content{texts(b), texts(r)}
	if !m.allows(got) {
		t.Fatalf("Open tells %v, not %v or %v", got, m.sure, m.perhaps)
	}
	m.sure, m.perhaps = got, nil
	return j, nil
}

func (m *model) commit(j *journal.Journal, body string) error {
	then := content{m.sure.base, append(slices.Clone(m.sure.records), body)}
	return m.told(j.Commit([]byte(body)), then)
}

func (m *model) compact(j *journal.Journal, base []string) error {
	return m.told(j.Compact(bodies(base...)), content{base: base})
}

func (m *model) told(err error, then content) error {
	switch {
	case err == nil:
		m.sure = then
	case isErr(err, api.ErrJournalOff):
		m.perhaps = &then
	}
	return err
}

// cuts gives every power cut of a disk: each beginning of each list of changes.
func cuts(img api.DiskImage) iter.Seq[api.PowerCut] {
	return func(yield func(api.PowerCut) bool) {
		for dir := range len(img.Turns) + 1 {
			if !withUnits(img.Nodes, api.PowerCut{Dir: dir}, yield) {
				return
			}
		}
	}
}

func withUnits(nodes []api.DiskNode, c api.PowerCut, yield func(api.PowerCut) bool) bool {
	if len(nodes) == 0 {
		return yield(c)
	}
	for n := range units(nodes[0]) + 1 {
		next := c
		next.Files = append(slices.Clone(c.Files), api.DiskKeep{Id: nodes[0].Id, Units: n})
		if !withUnits(nodes[1:], next, yield) {
			return false
		}
	}
	return true
}

func units(n api.DiskNode) int {
	sum := 0
	for _, c := range n.Changes {
		sum += len(c.Data)
		if c.Cut {
			sum++
		}
	}
	return sum
}

// life plays a whole journal until the power goes, and tells what must be there.
func life(t *testing.T, d *disk.Disk) model {
	t.Helper()
	var m model
	j, err := m.open(t, d)
	for _, deed := range []func() error{
		func() error { return m.commit(j, "xy") },
		func() error { return m.commit(j, "") },
		func() error { return m.compact(j, []string{"S", ""}) },
		func() error { return m.commit(j, "r") },
		func() error { return m.compact(j, nil) },
		func() error { return m.commit(j, "s") },
		func() error { return m.compact(j, []string{"T"}) },
	} {
		if err != nil {
			break
		}
		err = deed()
	}
	return m
}

// Every fuse in a life, every cut behind it, every fuse in the Open behind that, and cuts behind that.
func TestEveryCut(t *testing.T) {
	for fuse := 1; ; fuse++ {
		d := newDisk(t, 20, 2)
		d.Fuse(fuse)
		m := life(t, d)
		whole := d.Image()
		for c := range cuts(whole) {
			d := loadDisk(t, whole)
			d.Cut(c)
			again := m
			if _, err := again.open(t, loadDisk(t, d.Image())); err != nil {
				t.Fatalf("fuse %d, cut %v: %v", fuse, c, err)
			}
			cutInsideOpen(t, d.Image(), again)
		}
		if whole.Left > 0 {
			break // the life ended ahead of the power
		}
	}
}

// cutInsideOpen: what one Open would tell, the next one tells, wherever the first is cut off.
func cutInsideOpen(t *testing.T, img api.DiskImage, m model) {
	t.Helper()
	for fuse := 1; fuse < 9; fuse++ {
		d := loadDisk(t, img)
		d.Fuse(fuse)
		if _, err := m.open(t, d); err == nil {
			return
		}
		half := d.Image()
		for c := range cuts(half) {
			d := loadDisk(t, half)
			d.Cut(c)
			if _, err := m.open(t, d); err != nil {
				t.Fatalf("fuse %d in Open, cut %v: %v", fuse, c, err)
			}
		}
	}
}

func someText(rnd *rand.Rand) string {
	n := rnd.IntN(40)
	if rnd.IntN(4) == 0 {
		n = rnd.IntN(1500)
	}
	return strings.Repeat(string(rune('a'+rnd.IntN(26))), n)
}

func someTexts(rnd *rand.Rand) []string {
	var list []string
	for range rnd.IntN(4) {
		list = append(list, someText(rnd))
	}
	return list
}

func someCut(rnd *rand.Rand, img api.DiskImage) api.PowerCut {
	c := api.PowerCut{Dir: rnd.IntN(len(img.Turns) + 1)}
	for _, n := range img.Nodes {
		u := units(n)
		keep := rnd.IntN(u + 1)
		if rnd.IntN(3) == 0 {
			keep = u * rnd.IntN(2)
		}
		c.Files = append(c.Files, api.DiskKeep{Id: n.Id, Units: keep})
	}
	return c
}

// Long lives with fuses, quotas and cuts at any moment.
func TestManyLives(t *testing.T) {
	for seed := range uint64(400) {
		rnd := rand.New(rand.NewPCG(seed, 7))
		d := newDisk(t, 12, 2)
		var m model
		var j *journal.Journal
		for range 150 {
			oneDeed(t, rnd, d, &m, &j)
		}
	}
}

func oneDeed(t *testing.T, rnd *rand.Rand, d *disk.Disk, m *model, j **journal.Journal) {
	t.Helper()
	switch rnd.IntN(12) {
	case 0:
		d.Quota(2 + rnd.IntN(10))
	case 1:
		d.Fuse(rnd.IntN(14) - 1)
	case 2:
		img := d.Image()
		d.Cut(someCut(rnd, img))
		*j = nil
	case 3, 4:
		*j, _ = m.open(t, d)
	case 5:
		before := d.Image()
		if err := m.compact(*j, someTexts(rnd)); isErr(err, api.ErrJournalBroken) {
			sameImage(t, "broken", d.Image(), before)
		}
	default:
		before := d.Image()
		if err := m.commit(*j, someText(rnd)); err != nil && !isErr(err, api.ErrJournalOff) {
			sameImage(t, "a refused commit", d.Image(), before)
		}
	}
	stateKeeps(t, *m, *j)
}

// stateKeeps: P2.9 against the model.
func stateKeeps(t *testing.T, m model, j *journal.Journal) {
	t.Helper()
	if j == nil {
		return
	}
	s := j.State()
	size := len(slotOf(1, bodies(m.sure.base...), bodies(m.sure.records...)))
	if s.Base != len(m.sure.base) || s.Records != len(m.sure.records) || s.Size != size || s.Broken != (m.perhaps != nil) || j.Count() != s.Records {
		t.Fatalf("state %+v beside %v", s, m)
	}
}
