package disk_test

import (
	"math/rand"
	"reflect"
	"strings"
	"testing"

	"modality/api"
	"modality/disk"
)

// player writes by chance, and the same every time, on a disk and on its model.
type player struct {
	t *testing.T
	r *rand.Rand
	d *disk.Disk
	m *model
}

func newPlayer(t *testing.T, seed int64) *player {
	r := rand.New(rand.NewSource(seed))
	c := api.DiskConfig{Blocks: 1 + r.Intn(8), Names: 1 + r.Intn(4)}
	return &player{t, r, fresh(t, c.Blocks, c.Names), newModel(c)}
}

func (p *player) name() string {
	return []string{"a", "b", "c", "d", "slot.a", "a", "b", "c", "d", "slot.a", "B", ""}[p.r.Intn(12)]
}

func (p *player) data() []byte {
	b := make([]byte, []int{0, 1, 2, 3, 100, 511, 512, 513, 1100}[p.r.Intn(9)])
	for i := range b {
		b[i] = byte('a' + p.r.Intn(26))
	}
	return b
}

func (p *player) powerCut() api.PowerCut {
	c := api.PowerCut{Dir: p.r.Intn(8) - 1}
	for range p.r.Intn(6) {
		c.Files = append(c.Files, api.DiskKeep{Id: uint64(p.r.Int63n(int64(p.m.img.Next) + 1)), Units: p.r.Intn(1500) - 2})
	}
	return c
}

// step does one thing on both, and tells both answers.
func (p *player) step() (what string, got, want api.Errno) {
	name, to, data, size := p.name(), p.name(), p.data(), p.r.Intn(700)-1
	switch k := p.r.Intn(40); {
	case k < 8:
		return "Create", p.d.Create(name), p.m.create(name)
	case k < 16:
		return "Append", p.d.Append(name, data), p.m.add(name, data)
	case k < 20:
		return "Truncate", p.d.Truncate(name, size), p.m.truncate(name, size)
	case k < 23:
		return "Sync", p.d.Sync(name), p.m.sync(name)
	case k < 27:
		return "Rename", p.d.Rename(name, to), p.m.rename(name, to)
	case k < 30:
		return "Remove", p.d.Remove(name), p.m.remove(name)
	case k < 33:
		return "SyncDir", p.d.SyncDir(), p.m.syncDir()
	case k < 35:
		blocks := p.r.Intn(11) - 1
		p.d.Quota(blocks)
		p.m.quota(blocks)
		return "Quota", 0, 0
	case k < 37:
		writes := p.r.Intn(12) - 3
		p.d.Fuse(writes)
		p.m.fuse(writes)
		return "Fuse", 0, 0
	}
	c := p.powerCut()
	p.d.Cut(c)
	p.m.cut(c)
	return "Cut", 0, 0
}

// look holds all that a disk tells against the model.
func (p *player) look() {
	p.t.Helper()
	used(p.t, p.d, p.m.used())
	var names []row
	for _, name := range []string{"a", "b", "c", "d", "slot.a", "B", ""} {
		n, want := p.m.find(name)
		text := ""
		if want == api.OK {
			all := states(n)
			text = all[len(all)-1]
			names = append(names, row{name, len(text)})
		}
		if size, c := p.d.Size(name); c != want || size != len(text) {
			p.t.Fatalf("Size of %q: %d %d, not %d %d", name, size, c, len(text), want)
		}
		if b, c := p.d.Read(name, 0, 1<<30); c != want || string(b) != text {
			p.t.Fatalf("Read of %q: %d", name, c)
		}
		at, n2 := p.r.Intn(len(text)+1), p.r.Intn(600)
		if b, c := p.d.Read(name, at, n2); c != want || string(b) != text[at:min(at+n2, len(text))] {
			p.t.Fatalf("Read of %q from %d: %d", name, at, c)
		}
	}
	lists(p.t, p.d, names...)
}

func TestAgainstTheModel(t *testing.T) { // P1.2 to P1.7, P1.10, P1.11
	for seed := range int64(150) {
		p := newPlayer(t, seed)
		for i := range 120 {
			before, blocks := p.d.Image(), p.d.Used()
			what, got, want := p.step()
			is(t, what, got, want)
			after := p.d.Image()
			if !reflect.DeepEqual(after, p.m.img) {
				t.Fatalf("seed %d, step %d, %s:\n%+v, not\n%+v", seed, i, what, after, p.m.img)
			}
			p.look()
			if got != api.OK && !reflect.DeepEqual(before, after) {
				t.Fatal("a refused write changed something:", what)
			}
			if p.d.Used() > blocks && p.d.Used() > after.Config.Blocks {
				t.Fatal("more blocks are used than there are:", what)
			}
			if what == "Cut" && p.d.Used() > blocks {
				t.Fatal("a cut raised what is used")
			}
			numbersAreNew(t, before, after)
			e := load(t, after)
			sameImage(t, "loaded", e.Image(), after)
			used(t, e, p.d.Used())
		}
	}
}

// numbersAreNew looks that a file that was not there has a number that none had: P1.11.
func numbersAreNew(t *testing.T, before, after api.DiskImage) {
	t.Helper()
	if after.Next < before.Next {
		t.Fatal("the next number falls")
	}
	old := map[uint64]bool{}
	for _, n := range before.Nodes {
		old[n.Id] = true
	}
	for _, n := range after.Nodes {
		if !old[n.Id] && n.Id < before.Next {
			t.Fatal("a number was given again:", n.Id)
		}
	}
}

func TestWhatWasSyncedStays(t *testing.T) { // P1.8
	looked := 0
	for seed := range int64(300) {
		p := newPlayer(t, seed)
		for range 60 {
			p.step()
			before := p.d.Image()
			e := load(t, before)
			e.Cut(p.powerCut())
			for _, l := range before.Dir {
				if !turned(before.Turns, l.Name) {
					staysHeld(t, before, e, l)
					looked++
				}
			}
		}
	}
	if looked < 1000 {
		t.Fatal("too few files were looked at:", looked)
	}
}

func turned(turns []api.DiskTurn, name string) bool {
	for _, t := range turns {
		if t.Name == name || t.To == name {
			return true
		}
	}
	return false
}

func staysHeld(t *testing.T, before api.DiskImage, e *disk.Disk, l api.DiskLink) {
	t.Helper()
	b, c := e.Read(l.Name, 0, 1<<30)
	is(t, "a held name", c, api.OK)
	for _, n := range before.Nodes {
		if n.Id != l.Id {
			continue
		}
		all := string(n.Held)
		for _, c := range n.Changes {
			if c.Cut {
				return
			}
			all += string(c.Data)
		}
		if len(b) < len(n.Held) || !strings.HasPrefix(all, string(b)) {
			t.Fatalf("%s: %q of %q", l.Name, b, all)
		}
	}
}

func TestCutOfAQuietDisk(t *testing.T) { // P1.9
	for seed := range int64(300) {
		p := newPlayer(t, seed)
		for range 40 {
			p.step()
		}
		p.d.Cut(p.powerCut())
		quiet := p.d.Image()
		for range 3 {
			p.d.Cut(p.powerCut())
			sameImage(t, "a cut behind a cut", p.d.Image(), quiet)
		}
		p.d.Fuse(p.r.Intn(3))
		p.d.Cut(p.powerCut())
		sameImage(t, "a cut with a fuse", p.d.Image(), quiet)
	}
}

func TestOneAnswer(t *testing.T) { // DOC.md, 'One answer'
	for seed := range int64(20) {
		p, q := newPlayer(t, seed), newPlayer(t, seed)
		for range 100 {
			p.step()
			q.step()
			sameImage(t, "the same writes", p.d.Image(), q.d.Image())
		}
	}
}
