package disk_test

import (
	"math"
	"strings"
	"testing"

	"modality/api"
)

func TestNames(t *testing.T) { // what a name is: P1.4
	for _, name := range []string{"a", "z", "0", "9", ".", "-", "slot.a", "..", "abcdefghijklmnop", "-.0az9"} {
		d := fresh(t, 9, 9)
		is(t, name, d.Create(name), api.OK)
		reads(t, d, name, "")
	}
	for _, name := range []string{"", "A", "Z", "_", "/", "a/b", " ", "a ", "`", "{", ":", ",", "+", "\x00", "a\x00", "é", "\xff", "abcdefghijklmnopq", strings.Repeat("a", 1<<20)} {
		d := fresh(t, 9, 9)
		ok(t, d.Create("a"))
		unchanged(t, d, api.ErrDiskName, "Create", func() api.Errno { return d.Create(name) })
		unchanged(t, d, api.ErrDiskName, "Append", func() api.Errno { return d.Append(name, filled(9999)) })
		unchanged(t, d, api.ErrDiskName, "Truncate", func() api.Errno { return d.Truncate(name, -1) })
		unchanged(t, d, api.ErrDiskName, "Sync", func() api.Errno { return d.Sync(name) })
		unchanged(t, d, api.ErrDiskName, "Rename", func() api.Errno { return d.Rename(name, "b") })
		unchanged(t, d, api.ErrDiskName, "Rename to", func() api.Errno { return d.Rename("a", name) })
		unchanged(t, d, api.ErrDiskName, "Rename of none to", func() api.Errno { return d.Rename("q", name) })
		unchanged(t, d, api.ErrDiskName, "Remove", func() api.Errno { return d.Remove(name) })
		unchanged(t, d, api.ErrDiskName, "Size", func() api.Errno { _, c := d.Size(name); return c })
		unchanged(t, d, api.ErrDiskName, "Read", func() api.Errno { _, c := d.Read(name, -1, -1); return c })
	}
}

func TestNoFile(t *testing.T) { // P1.4, P1.5
	d := fresh(t, 9, 9)
	ok(t, d.Create("a"))
	unchanged(t, d, api.ErrDiskNone, "Append", func() api.Errno { return d.Append("b", filled(9999)) })
	unchanged(t, d, api.ErrDiskNone, "Truncate", func() api.Errno { return d.Truncate("b", -1) })
	unchanged(t, d, api.ErrDiskNone, "Sync", func() api.Errno { return d.Sync("b") })
	unchanged(t, d, api.ErrDiskNone, "Rename", func() api.Errno { return d.Rename("b", "a") })
	unchanged(t, d, api.ErrDiskNone, "Rename onto itself", func() api.Errno { return d.Rename("b", "b") })
	unchanged(t, d, api.ErrDiskNone, "Remove", func() api.Errno { return d.Remove("b") })
	if b, c := d.Read("b", -1, 0); b != nil || c != api.ErrDiskNone {
		t.Fatal(b, c)
	}
	if n, c := d.Size("b"); n != 0 || c != api.ErrDiskNone {
		t.Fatal(n, c)
	}
}

func TestNoPower(t *testing.T) { // P1.4, P1.5: the first reason of all, for names that are none too
	d := fresh(t, 9, 9)
	ok(t, d.Create("a"), d.Append("a", []byte("x")))
	d.Fuse(0)
	for _, name := range []string{"a", "b", "B"} {
		unchanged(t, d, api.ErrDiskOff, "Create", func() api.Errno { return d.Create(name) })
		unchanged(t, d, api.ErrDiskOff, "Append", func() api.Errno { return d.Append(name, []byte("x")) })
		unchanged(t, d, api.ErrDiskOff, "Truncate", func() api.Errno { return d.Truncate(name, 0) })
		unchanged(t, d, api.ErrDiskOff, "Sync", func() api.Errno { return d.Sync(name) })
		unchanged(t, d, api.ErrDiskOff, "Rename", func() api.Errno { return d.Rename(name, "c") })
		unchanged(t, d, api.ErrDiskOff, "Remove", func() api.Errno { return d.Remove(name) })
		unchanged(t, d, api.ErrDiskOff, "SyncDir", func() api.Errno { return d.SyncDir() })
		if b, c := d.Read(name, 0, 1); b != nil || c != api.ErrDiskOff {
			t.Fatal(b, c)
		}
		if n, c := d.Size(name); n != 0 || c != api.ErrDiskOff {
			t.Fatal(n, c)
		}
	}
	lists(t, d)
	used(t, d, 1)
}

func TestCreate(t *testing.T) { // P1.4
	d := fresh(t, 2, 2)
	ok(t, d.Create("b"))
	sameImage(t, "one file", d.Image(), api.DiskImage{
		Config: api.DiskConfig{Blocks: 2, Names: 2},
		Nodes:  []api.DiskNode{{Id: 1}},
		Turns:  []api.DiskTurn{{Kind: api.TurnLink, Name: "b", Id: 1}},
		Next:   2,
		Left:   -1,
	})
	unchanged(t, d, api.ErrDiskTaken, "again", func() api.Errno { return d.Create("b") })
	ok(t, d.Create("a"))
	unchanged(t, d, api.ErrDiskTaken, "again, though there are no names", func() api.Errno { return d.Create("b") })
	unchanged(t, d, api.ErrDiskNames, "a third", func() api.Errno { return d.Create("c") })
	ok(t, d.Remove("a"))
	unchanged(t, d, api.ErrDiskFull, "no block, but a name", func() api.Errno { return d.Create("c") })
	ok(t, d.SyncDir(), d.Create("c"))
	if img := d.Image(); len(img.Nodes) != 2 || img.Nodes[1].Id != 3 {
		t.Fatal(img)
	}
}

func TestCreateAtTheLastNumber(t *testing.T) { // P1.4, P1.11
	d := load(t, api.DiskImage{Config: api.DiskConfig{Blocks: 1, Names: 2}, Next: api.MaxNodeNum, Left: -1})
	ok(t, d.Create("a"))
	if img := d.Image(); img.Nodes[0].Id != api.MaxNodeNum || img.Next != api.MaxNodeNum+1 {
		t.Fatal(img)
	}
	unchanged(t, d, api.ErrDiskSpent, "ahead of no block", func() api.Errno { return d.Create("b") })
	unchanged(t, d, api.ErrDiskTaken, "behind taken", func() api.Errno { return d.Create("a") })
	d.Cut(api.PowerCut{})
	unchanged(t, d, api.ErrDiskSpent, "for ever", func() api.Errno { return d.Create("b") })
	img := d.Image()
	img.Config.Names = 1
	img.Nodes = []api.DiskNode{{Id: 5}}
	img.Dir = []api.DiskLink{{Name: "a", Id: 5}}
	d = load(t, img)
	unchanged(t, d, api.ErrDiskNames, "behind names", func() api.Errno { return d.Create("b") })
	ok(t, d.Append("a", []byte("x")), d.Rename("a", "b"))
}

func TestAppend(t *testing.T) { // P1.4
	d := fresh(t, 2, 2)
	ok(t, d.Create("a"), d.SyncDir(), d.Append("a", []byte("he")), d.Append("a", nil), d.Append("a", []byte{}), d.Append("a", []byte("llo")))
	reads(t, d, "a", "hello")
	sameImage(t, "two changes", d.Image(), api.DiskImage{
		Config: api.DiskConfig{Blocks: 2, Names: 2},
		Nodes:  []api.DiskNode{{Id: 1, Changes: []api.DiskChange{{Data: []byte("he")}, {Data: []byte("llo")}}}},
		Dir:    []api.DiskLink{{Name: "a", Id: 1}},
		Next:   2,
		Left:   -1,
	})
	unchanged(t, d, api.ErrDiskFull, "too much", func() api.Errno { return d.Append("a", filled(1020)) })
	ok(t, d.Append("a", filled(1019)))
	used(t, d, 2)
	unchanged(t, d, api.ErrDiskFull, "one byte", func() api.Errno { return d.Append("a", []byte("x")) })
	ok(t, d.Append("a", nil))
}

func TestAppendAboveTheQuota(t *testing.T) { // P1.4
	d := fresh(t, 9, 9)
	ok(t, d.Create("a"), d.Append("a", filled(1023)), d.Create("b"), d.SyncDir())
	d.Quota(0)
	ok(t, d.Append("a", []byte("x")), d.Append("b", filled(512)), d.Append("a", nil))
	unchanged(t, d, api.ErrDiskFull, "a new block", func() api.Errno { return d.Append("a", []byte("x")) })
	unchanged(t, d, api.ErrDiskFull, "a new file", func() api.Errno { return d.Create("c") })
	ok(t, d.Truncate("a", 600), d.Append("a", filled(424)), d.Truncate("a", 3))
	used(t, d, 3)
	unchanged(t, d, api.ErrDiskFull, "beyond the peak", func() api.Errno { return d.Append("a", filled(1022)) })
	ok(t, d.Append("a", filled(1021)), d.Truncate("a", 3), d.Sync("a"), d.Rename("a", "c"), d.Remove("b"), d.SyncDir())
	used(t, d, 1)
	ok(t, d.Remove("c"), d.SyncDir())
	d.Quota(1)
	ok(t, d.Create("c"))
}

func TestTruncate(t *testing.T) { // P1.4
	d := fresh(t, 9, 9)
	ok(t, d.Create("a"), d.Append("a", []byte("hello")), d.Sync("a"), d.SyncDir())
	for _, size := range []int{-1, 6, math.MinInt, math.MaxInt} {
		unchanged(t, d, api.ErrDiskRange, "no such length", func() api.Errno { return d.Truncate("a", size) })
	}
	before := d.Image()
	ok(t, d.Truncate("a", 5))
	sameImage(t, "its own length", d.Image(), before)
	ok(t, d.Append("a", []byte("xyz")), d.Truncate("a", 6), d.Truncate("a", 0), d.Truncate("a", 0))
	reads(t, d, "a", "")
	before.Nodes[0].Changes = []api.DiskChange{{Data: []byte("xyz")}, {Cut: true, Len: 6}, {Cut: true}}
	sameImage(t, "changes", d.Image(), before)
	unchanged(t, d, api.ErrDiskRange, "what it had", func() api.Errno { return d.Truncate("a", 1) })
}

func TestSync(t *testing.T) { // P1.4
	d := fresh(t, 9, 9)
	ok(t, d.Create("a"), d.Create("b"), d.Append("a", []byte("hello")), d.Truncate("a", 1), d.Append("a", []byte("i")), d.Append("b", []byte("b")), d.Sync("a"))
	sameImage(t, "one is held", d.Image(), api.DiskImage{
		Config: api.DiskConfig{Blocks: 9, Names: 9},
		Nodes:  []api.DiskNode{{Id: 1, Held: []byte("hi")}, {Id: 2, Changes: []api.DiskChange{{Data: []byte("b")}}}},
		Turns:  []api.DiskTurn{{Kind: api.TurnLink, Name: "a", Id: 1}, {Kind: api.TurnLink, Name: "b", Id: 2}},
		Next:   3,
		Left:   -1,
	})
	before := d.Image()
	ok(t, d.Sync("a"))
	sameImage(t, "again", d.Image(), before)
}

func TestRename(t *testing.T) { // P1.4
	d := fresh(t, 9, 3)
	ok(t, d.Create("a"), d.Create("b"), d.Append("a", []byte("aa")), d.Sync("a"), d.Append("b", []byte("b")), d.SyncDir())
	unchanged(t, d, api.ErrDiskSame, "onto itself", func() api.Errno { return d.Rename("a", "a") })
	ok(t, d.Rename("a", "c"))
	lists(t, d, row{"b", 1}, row{"c", 2})
	ok(t, d.Rename("c", "b"))
	lists(t, d, row{"b", 2})
	used(t, d, 2)
	sameImage(t, "two turns", d.Image(), api.DiskImage{
		Config: api.DiskConfig{Blocks: 9, Names: 3},
		Nodes:  []api.DiskNode{{Id: 1, Held: []byte("aa")}, {Id: 2, Changes: []api.DiskChange{{Data: []byte("b")}}}},
		Dir:    []api.DiskLink{{Name: "a", Id: 1}, {Name: "b", Id: 2}},
		Turns:  []api.DiskTurn{{Kind: api.TurnMove, Name: "a", To: "c"}, {Kind: api.TurnMove, Name: "c", To: "b"}},
		Next:   3,
		Left:   -1,
	})
	ok(t, d.Create("a"), d.Create("c"))
	unchanged(t, d, api.ErrDiskNames, "three names", func() api.Errno { return d.Create("d") })
	ok(t, d.Rename("a", "b"), d.Create("d"))
}

func TestRemove(t *testing.T) { // P1.4
	d := fresh(t, 9, 1)
	ok(t, d.Create("a"), d.Append("a", []byte("aa")), d.Sync("a"), d.SyncDir(), d.Remove("a"))
	lists(t, d)
	used(t, d, 1)
	sameImage(t, "a file without a name", d.Image(), api.DiskImage{
		Config: api.DiskConfig{Blocks: 9, Names: 1},
		Nodes:  []api.DiskNode{{Id: 1, Held: []byte("aa")}},
		Dir:    []api.DiskLink{{Name: "a", Id: 1}},
		Turns:  []api.DiskTurn{{Kind: api.TurnUnlink, Name: "a"}},
		Next:   2,
		Left:   -1,
	})
	ok(t, d.Create("a"))
	reads(t, d, "a", "")
	used(t, d, 2)
}

func TestSyncDir(t *testing.T) { // P1.4
	d := fresh(t, 9, 3)
	ok(t, d.Create("b"), d.Create("a"), d.Create("c"), d.Append("c", []byte("cc")), d.Remove("b"), d.Rename("c", "b"), d.SyncDir())
	want := api.DiskImage{
		Config: api.DiskConfig{Blocks: 9, Names: 3},
		Nodes:  []api.DiskNode{{Id: 2}, {Id: 3, Changes: []api.DiskChange{{Data: []byte("cc")}}}},
		Dir:    []api.DiskLink{{Name: "a", Id: 2}, {Name: "b", Id: 3}},
		Next:   4,
		Left:   -1,
	}
	sameImage(t, "the directory is held, the bytes are not", d.Image(), want)
	used(t, d, 2)
	ok(t, d.SyncDir())
	sameImage(t, "again", d.Image(), want)
}

func TestWritesUpToTheGreatestDisk(t *testing.T) { // the limits of P1.1: at them all is as below
	d := fresh(t, api.MaxBlocks, api.MaxNames)
	for i := range api.MaxNames {
		ok(t, d.Create(string(rune('a'+i%26))+string(rune('a'+i/26))))
	}
	is(t, "one name more", d.Create("zz"), api.ErrDiskNames)
	room := (api.MaxBlocks-api.MaxNames+1)*api.DiskBlock - 1
	ok(t, d.Append("aa", make([]byte, room)), d.Append("aa", []byte{1}))
	used(t, d, api.MaxBlocks)
	is(t, "one byte more", d.Append("aa", []byte{1}), api.ErrDiskFull)
	if n, c := d.Size("aa"); n != room+1 || c != api.OK {
		t.Fatal(n, c)
	}
	if b, c := d.Read("aa", room, 5); len(b) != 1 || b[0] != 1 || c != api.OK {
		t.Fatal(b, c)
	}
}

func TestManyFilesWithoutName(t *testing.T) { // a name is free at once, its blocks are not
	d := fresh(t, api.MaxBlocks, 1)
	for range api.MaxBlocks {
		ok(t, d.Create("a"), d.Remove("a"))
	}
	is(t, "no block", d.Create("a"), api.ErrDiskFull)
	ok(t, d.SyncDir(), d.Create("a"))
	used(t, d, 1)
	if next := d.Image().Next; next != api.MaxBlocks+2 {
		t.Fatal(next)
	}
}
