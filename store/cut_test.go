package store_test

import (
	"fmt"
	"iter"
	"math/rand/v2"
	"slices"
	"testing"

	"modality/api"
	"modality/disk"
	"modality/store"
)

// belief is what a start must tell: sure, or, if a Put was broken off, perhaps the state behind that.
type belief struct {
	sure    api.State
	perhaps *api.State
}

func (b belief) allows(st api.State) bool {
	return same(st, b.sure) || b.perhaps != nil && same(st, *b.perhaps)
}

// open begins again; what it tells is sure from then on.
func (b *belief) open(t *testing.T, d *disk.Disk, compact int) *store.Store {
	t.Helper()
	s, err := store.Open(d, compact)
	if err != nil {
		if s != nil {
			t.Fatalf("a store beside %v", err)
		}
		return nil
	}
	st := s.State()
	if !b.allows(st) {
		t.Fatalf("P12.13: a start tells %s, not %s or %s", shown(st), shown(b.sure), shown(b.perhaps))
	}
	b.sure, b.perhaps = st, nil
	return s
}

// put puts a mutation, and keeps what must be there behind it.
func (b *belief) put(t *testing.T, s *store.Store, m api.Mutation) error {
	t.Helper()
	then, flaw := modelApply(b.sure, m)
	err := s.Put(m)
	switch {
	case err == nil && flaw == taken:
		b.sure = then
	case is(err, api.ErrStoreOff, 0) && flaw == taken:
		if b.perhaps == nil {
			b.perhaps = &then
		}
	case is(err, api.ErrStoreReplay, flaw) && flaw != taken, is(err, api.ErrStoreFull, 0), is(err, api.ErrStoreOff, 0):
	default:
		t.Fatalf("P12.9: %s in %s: %v, %d", shown(m), shown(b.sure), err, flaw)
	}
	stateIs(t, "P12.9", s, b.sure)
	return err
}

// cuts gives every power cut of a disk: each beginning of each list of changes.
func cuts(img api.DiskImage) iter.Seq[api.PowerCut] {
	return func(yield func(api.PowerCut) bool) {
		for dir := range len(img.Turns) + 1 {
			if !withUnits(img.Nodes, api.PowerCut{Dir: dir}, yield) {
				return
			}
		}
	}
}

func withUnits(nodes []api.DiskNode, c api.PowerCut, yield func(api.PowerCut) bool) bool {
	if len(nodes) == 0 {
		return yield(c)
	}
	for n := range units(nodes[0]) + 1 {
		next := c
		next.Files = append(slices.Clone(c.Files), api.DiskKeep{Id: nodes[0].Id, Units: n})
		if !withUnits(nodes[1:], next, yield) {
			return false
		}
	}
	return true
}

func units(n api.DiskNode) int {
	sum := 0
	for _, c := range n.Changes {
		sum += len(c.Data)
		if c.Cut {
			sum++
		}
	}
	return sum
}

// story is a whole life: orders, performed steps, bases, and a Put that needs one.
func story(t *testing.T, s *store.Store, d *disk.Disk, b *belief) {
	t.Helper()
	for i, m := range []api.Mutation{
		putSteps("1", row("A"), row("B")), performed(perf("1.1", 1), moves(2, "A")...), gone("2", "B"), performed(perf("1.1", 1, node(api.TagPatientID, api.VRLO, "7"))),
		{}, performed(perf("1.1", 2), moves(3, "A")...), gone("3", "A"), {}, performed(perf("1.2", 1)), putSteps("4", row("C")),
	} {
		if m.Kind == 0 && s.Compact() != nil {
			return
		}
		if m.Kind != 0 && b.put(t, s, m) != nil {
			return
		}
		if i == 8 {
			d.Quota(d.Used()) // from here on a record has no room now and then, and a base is taken for it
		}
		for range 6 {
			if i == 8 && b.put(t, s, performed(perf("1.2", 1, node(api.TagPatientID, api.VRLO, long("x", 30))))) != nil {
				return
			}
		}
	}
}

// TestEveryCut: P12.13: every fuse in a life, and every cut behind it.
func TestEveryCut(t *testing.T) {
	for fuse := 0; ; fuse++ {
		d := newDisk(t, 20)
		var b belief
		d.Fuse(fuse)
		if s := b.open(t, d, 1); s != nil {
			story(t, s, d, &b)
		}
		img := d.Image()
		for c := range cuts(img) {
			again := loadDisk(t, img)
			again.Cut(c)
			left := b
			s := left.open(t, again, 1)
			if s == nil {
				t.Fatalf("P12.13: fuse %d, cut %v: no store", fuse, c)
			}
			left.open(t, again, 1)
		}
		if img.Left > 0 { // the life ended ahead of the power
			if gen, _, _ := journalOf(t, d); gen < 4 {
				t.Fatalf("no Put has taken a base: generation %d", gen)
			}
			return
		}
	}
}

// someMutation is one that often fits, often not, and is sometimes none.
func someMutation(rnd *rand.Rand, st api.State) api.Mutation {
	keys := []string{"A", "B", "C", "D", "E"}
	var chosen []string
	for _, k := range keys {
		if rnd.IntN(3) == 0 {
			chosen = append(chosen, k)
		}
	}
	control := fmt.Sprint(rnd.IntN(1000))
	if rnd.IntN(8) == 0 {
		control = st.Control
	}
	switch rnd.IntN(8) {
	case 0, 1, 2:
		var steps []api.Step
		for _, id := range chosen {
			x := row(id)
			x.Desc = long("x", rnd.IntN(60))
			steps = append(steps, x)
		}
		return putSteps(control, steps...)
	case 3:
		return gone(control, chosen...)
	case 4:
		return performed(perf(fmt.Sprintf("1.%d", rnd.IntN(4)), 1), moves(2, chosen...)...)
	case 5:
		state := 1 + rnd.IntN(3)
		return performed(perf(fmt.Sprintf("1.%d", rnd.IntN(4)), state, node(api.TagPatientID, api.VRLO, fmt.Sprint(rnd.IntN(1000)))), moves(state+1, chosen...)...)
	case 6:
		return performed(perf(fmt.Sprintf("1.%d", rnd.IntN(40)), 1, node(0x00404000, api.VRUN, long("ab", rnd.IntN(300)))))
	}
	return performed(perf(fmt.Sprintf("1.%d", rnd.IntN(4)), 1+rnd.IntN(3)))
}

// fitting looks for a mutation that fits, for a while.
func fitting(rnd *rand.Rand, st api.State) api.Mutation {
	for range 20 {
		m := someMutation(rnd, st)
		if store.Formed(m) != nil {
			continue
		}
		if _, flaw := modelApply(st, m); flaw == taken {
			return m
		}
	}
	return based("")
}

func someCut(rnd *rand.Rand, img api.DiskImage) api.PowerCut {
	c := api.PowerCut{Dir: rnd.IntN(len(img.Turns) + 1)}
	for _, n := range img.Nodes {
		u := units(n)
		keep := rnd.IntN(u + 1)
		if rnd.IntN(3) == 0 {
			keep = u * rnd.IntN(2)
		}
		c.Files = append(c.Files, api.DiskKeep{Id: n.Id, Units: keep})
	}
	return c
}

// watch looks along the states that were put: P12.15.
type watch struct {
	last api.State
}

func (w *watch) see(t *testing.T, st api.State) {
	t.Helper()
	for _, old := range w.last.Perfs {
		i := perfAt(st, old.UID)
		if i < 0 {
			t.Fatalf("P12.15: the performed step %s is gone", old.UID)
		}
		if old.State != api.PerfProgress && !same(st.Perfs[i], old) {
			t.Fatalf("P12.15: %s has become %s", shown(old), shown(st.Perfs[i]))
		}
	}
	for _, p := range st.Perfs {
		if perfAt(w.last, p.UID) < 0 && p.State != api.PerfProgress {
			t.Fatalf("P12.15: %s has begun as %d", p.UID, p.State)
		}
	}
	for _, old := range w.last.Steps {
		if now := statusOf(st, old.ID); now != 0 && now < old.Status {
			t.Fatalf("P12.15: the status of %s has fallen from %d to %d", old.ID, old.Status, now)
		}
	}
	if err := store.Sound(st); err != nil {
		t.Fatalf("P12.5: %v", err)
	}
	w.last = cloneState(st)
}

// TestManyLives: P12.13, P12.14, P12.15: long lives with fuses, quotas, bases and cuts at any moment.
func TestManyLives(t *testing.T) {
	count := map[string]int{}
	for seed := range uint64(300) {
		rnd := rand.New(rand.NewPCG(seed, 12))
		d := newDisk(t, 14)
		var b belief
		var w watch
		var s *store.Store
		for range 120 {
			s = oneDeed(t, rnd, d, &b, s, count)
			if s != nil {
				w.see(t, s.State())
			}
		}
	}
	for _, what := range []string{"put", "full", "off", "replay", "base", "cut", "open"} {
		if count[what] < 100 {
			t.Errorf("the lives are too much alike: %v", count)
		}
	}
}

func oneDeed(t *testing.T, rnd *rand.Rand, d *disk.Disk, b *belief, s *store.Store, count map[string]int) *store.Store {
	t.Helper()
	switch n := rnd.IntN(24); {
	case n == 0:
		d.Quota(2 + rnd.IntN(14))
	case n == 1:
		d.Fuse(rnd.IntN(14) - 1)
	case n == 2:
		d.Cut(someCut(rnd, d.Image()))
		count["cut"]++
		return nil
	case n < 5:
		count["open"]++
		return b.open(t, d, 1+rnd.IntN(6))
	case s == nil:
	case n < 8:
		if err := s.Compact(); err == nil {
			count["base"]++
		}
		stateIs(t, "P12.11", s, b.sure)
	default:
		m := fitting(rnd, b.sure)
		if n < 11 {
			m = someMutation(rnd, b.sure)
		}
		if store.Formed(m) == nil {
			putOne(t, d, b, s, m, count)
		}
	}
	return s
}

func putOne(t *testing.T, d *disk.Disk, b *belief, s *store.Store, m api.Mutation, count map[string]int) {
	t.Helper()
	before := d.Image()
	switch err := b.put(t, s, m); {
	case err == nil:
		count["put"]++
	case is(err, api.ErrStoreFull, 0):
		count["full"]++
		copyTells(t, "P12.14", d, b.sure)
	case is(err, api.ErrStoreOff, 0):
		count["off"]++
	default:
		count["replay"]++
		if !same(d.Image(), before) {
			t.Fatal("P12.14: a refused Put has changed the disk")
		}
	}
}
