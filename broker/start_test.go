package broker_test

import (
	"slices"
	"strings"
	"testing"

	"modality/api"
	"modality/broker"
	"modality/disk"
	"modality/journal"
	"modality/store"
)

// callers gives so many titles.
func callers(n int) []string { return slices.Repeat([]string{"CT1"}, n) }

// settings are ways to turn a configuration, and the number of the field that is wrong then; 0: none.
var settings = []struct {
	name string
	turn func(*api.Config)
	at   int
}{
	{"as it is", func(c *api.Config) {}, 0},
	{"title: one byte", func(c *api.Config) { c.Title = "A" }, 0},
	{"title: sixteen bytes", func(c *api.Config) { c.Title = "ABCDEFGHIJKLMNOP" }, 0},
	{"title: a space inside", func(c *api.Config) { c.Title = "A  B" }, 0},
	{"title: all kinds of bytes", func(c *api.Config) { c.Title = "!~[]^a_1" }, 0},
	{"title: none", func(c *api.Config) { c.Title = "" }, 1},
	{"title: seventeen bytes", func(c *api.Config) { c.Title = "ABCDEFGHIJKLMNOPQ" }, 1},
	{"title: a space ahead", func(c *api.Config) { c.Title = " A" }, 1},
	{"title: a space behind", func(c *api.Config) { c.Title = "A " }, 1},
	{"title: a space alone", func(c *api.Config) { c.Title = " " }, 1},
	{"title: a backslash", func(c *api.Config) { c.Title = `A\B` }, 1},
	{"title: a control byte", func(c *api.Config) { c.Title = "A\tB" }, 1},
	{"title: a byte 0", func(c *api.Config) { c.Title = "A\x00" }, 1},
	{"title: byte 127", func(c *api.Config) { c.Title = "A\x7F" }, 1},
	{"title: no ASCII", func(c *api.Config) { c.Title = "Ä" }, 1},
	{"callers: an empty list", func(c *api.Config) { c.Callers = []string{} }, 0},
	{"callers: 64", func(c *api.Config) { c.Callers = callers(64) }, 0},
	{"callers: one twice", func(c *api.Config) { c.Callers = []string{"A B", "A B"} }, 0},
	{"callers: 65", func(c *api.Config) { c.Callers = callers(65) }, 2},
	{"callers: the first", func(c *api.Config) { c.Callers = []string{"", "A"} }, 2},
	{"callers: the last", func(c *api.Config) { c.Callers = append(callers(63), "A ") }, 2},
	{"callers: too long", func(c *api.Config) { c.Callers = []string{strings.Repeat("A", 17)} }, 2},
	{"callers: a backslash", func(c *api.Config) { c.Callers = []string{"A", `B\`} }, 2},
	{"lines: 1", func(c *api.Config) { c.Lines = 1 }, 0},
	{"lines: 16", func(c *api.Config) { c.Lines = 16 }, 0},
	{"lines: 0", func(c *api.Config) { c.Lines = 0 }, 3},
	{"lines: 17", func(c *api.Config) { c.Lines = 17 }, 3},
	{"lines: below 0", func(c *api.Config) { c.Lines = -1 << 62 }, 3},
	{"artim: 1", func(c *api.Config) { c.Artim = 1 }, 0},
	{"artim: 1000", func(c *api.Config) { c.Artim = 1000 }, 0},
	{"artim: 0", func(c *api.Config) { c.Artim = 0 }, 4},
	{"artim: 1001", func(c *api.Config) { c.Artim = 1001 }, 4},
	{"artim: below 0", func(c *api.Config) { c.Artim = -1 }, 4},
	{"compact: 1", func(c *api.Config) { c.Compact = 1 }, 0},
	{"compact: 1000", func(c *api.Config) { c.Compact = 1000 }, 0},
	{"compact: 0", func(c *api.Config) { c.Compact = 0 }, 5},
	{"compact: 1001", func(c *api.Config) { c.Compact = 1001 }, 5},
	{"compact: huge", func(c *api.Config) { c.Compact = 1 << 62 }, 5},
}

// TestStartSettings: every setting, and every two: the first that is wrong holds, ahead of whatever the image is.
func TestStartSettings(t *testing.T) {
	for _, one := range settings {
		for _, other := range settings {
			c := config()
			one.turn(&c)
			other.turn(&c)
			at := other.at // it has had the last word on its own field
			if one.at != 0 && (at == 0 || one.at < at) && field(one.name) != field(other.name) {
				at = one.at
			}
			if at == 0 {
				if b, err := broker.Start(c, fresh()); err != nil || !b.Up() {
					t.Fatalf("P16.1: %s, %s: %v", one.name, other.name, err)
				}
				continue
			}
			for _, img := range []api.DiskImage{fresh(), {}, {Left: 5}} {
				if b, err := broker.Start(c, img); b != nil || !isFault(err, at, api.ErrBrokerConfig) {
					t.Fatalf("P16.1: %s, %s: %v, not at %d", one.name, other.name, err, at)
				}
			}
		}
	}
	if b, err := broker.Start(api.Config{}, api.DiskImage{}); b != nil || !isFault(err, 1, api.ErrBrokerConfig) {
		t.Errorf("P16.1: nothing at all: %v", err)
	}
}

// field is the field that a setting turns.
func field(name string) string {
	head, _, _ := strings.Cut(name, ":")
	return head
}

// TestStartLeft: a disk whose power is off, or lasts for a number of writes, is none to begin with, whatever else it is.
func TestStartLeft(t *testing.T) {
	for _, left := range []int{0, 1, 5, 1 << 40, -2, -1 << 62} {
		img := fresh()
		img.Left = left
		if b, err := broker.Start(config(), img); b != nil || !isFault(err, 0, api.ErrBrokerImage) {
			t.Errorf("P16.1: Left %d: %v", left, err)
		}
		if b, err := broker.Start(config(), api.DiskImage{Left: left}); b != nil || !isFault(err, 0, api.ErrBrokerImage) {
			t.Errorf("P16.1: no disk, Left %d: %v", left, err)
		}
	}
}

// TestStartDisk: what layer 1 refuses is behind the fault as it came.
func TestStartDisk(t *testing.T) {
	for i, turn := range []func(*api.DiskImage){
		func(m *api.DiskImage) { m.Config.Blocks = -1 },
		func(m *api.DiskImage) { m.Config.Blocks = api.MaxBlocks + 1 },
		func(m *api.DiskImage) { m.Config.Names = 0 },
		func(m *api.DiskImage) { m.Next = 0 },
		func(m *api.DiskImage) { m.Nodes = []api.DiskNode{{Id: 1}} },
		func(m *api.DiskImage) { m.Dir = []api.DiskLink{{Name: "a", Id: 1}} },
		func(m *api.DiskImage) { m.Turns = []api.DiskTurn{{}} },
	} {
		img := fresh()
		turn(&img)
		_, want := disk.Load(img)
		b, err := broker.Start(config(), img)
		f, ok := err.(*api.Fault)
		if want == nil || b != nil || !ok || f.Layer != "broker" || f.At != 0 || !same(f.Err, want) {
			t.Errorf("P16.1: image %d: %v, not %v behind it", i, err, want)
		}
	}
}

// TestStartStore: what layer 12 refuses is behind the fault as it came.
func TestStartStore(t *testing.T) {
	noMutation, _ := journal.Head(1, [][]byte{{9}})
	notFitting, _ := journal.Head(1, [][]byte{{2, 0, 0, 1, 1, 0, 'A'}})
	narrow := func(blocks, names int) api.DiskImage {
		img := fresh()
		img.Config = api.DiskConfig{Blocks: blocks, Names: names}
		return img
	}
	for name, img := range map[string]api.DiskImage{
		"no room":            narrow(0, 4),
		"room for one slot":  narrow(1, 4),
		"names for one slot": narrow(9, 1),
		"a lost journal":     diskWith(t, map[string][]byte{"slot.a": make([]byte, 30)}).Image(),
		"no mutation":        diskWith(t, map[string][]byte{"slot.a": noMutation}).Image(),
		"no base":            diskWith(t, map[string][]byte{"slot.b": notFitting}).Image(),
	} {
		d, err := disk.Load(img)
		if err != nil {
			t.Fatal(err)
		}
		_, want := store.Open(d, config().Compact)
		b, err := broker.Start(config(), img)
		f, ok := err.(*api.Fault)
		if want == nil || b != nil || !ok || f.Layer != "broker" || f.At != 1 || !same(f.Err, want) {
			t.Errorf("P16.1: %s: %v, not %v behind it", name, err, want)
		}
	}
}

// TestStartUp: the server has the disk's state, as layer 12 opens it, and nothing else.
func TestStartUp(t *testing.T) {
	st := scheduled("A", "B")
	st.Control = "M7"
	for _, img := range []api.DiskImage{fresh(), diskOf(t, api.State{}).Image(), diskOf(t, st).Image()} {
		d, _ := disk.Load(img)
		s, err := store.Open(d, 5)
		if err != nil {
			t.Fatal(err)
		}
		b := begun(t, config(), img)
		if !b.Up() {
			t.Error("P16.1: it is not up")
		}
		hasState(t, "P16.1", b, s.State())
		if !same(b.Disk(), d.Image()) {
			t.Errorf("P16.1: the disk is %s", shown(b.Disk()))
		}
		for n := range 16 {
			isIdle(t, "P16.1", b, n)
		}
		gives(t, "P16.1: a server that is up is not begun again", b, start())
		order := ordering("M9", api.OrderNew, row("Z"))
		gives(t, "P16.1: no half-read order", b, fed(order[1:]))
	}
	if b := begun(t, config(), diskOf(t, st).Image()); b.Disk().Left != -1 {
		t.Error("P16.1: a fuse")
	}
}

// TestStartCompact: the configuration's number of records is layer 12's.
func TestStartCompact(t *testing.T) {
	for _, compact := range []int{1, 2, 3} {
		c := config()
		c.Compact = compact
		b := begun(t, c, fresh())
		for i := range compact {
			records(t, "P16.1: ahead of a compaction", b, 1, i)
			do(t, b, fed(ordering("M"+string(rune('1'+i)), api.OrderNew, row("A"+string(rune('1'+i))))))
		}
		records(t, "P16.1: behind it", b, 2, 0)
	}
}
