package disk_test

import (
	"math"
	"testing"

	"modality/api"
	"modality/disk"
)

func TestNew(t *testing.T) { // P1.1
	for _, c := range []api.DiskConfig{
		{Blocks: 1, Names: 1},
		{Blocks: api.MaxBlocks, Names: 1},
		{Blocks: 1, Names: api.MaxNames},
		{Blocks: api.MaxBlocks, Names: api.MaxNames},
	} {
		d, err := disk.New(c)
		if err != nil || d == nil {
			t.Fatal(c, d, err)
		}
		sameImage(t, "a new disk", d.Image(), api.DiskImage{Config: c, Next: 1, Left: -1})
		used(t, d, 0)
		lists(t, d)
	}
}

func TestNewRefuses(t *testing.T) { // P1.1
	for _, c := range []struct {
		config api.DiskConfig
		at     int
	}{
		{api.DiskConfig{Blocks: 0, Names: 1}, 0},
		{api.DiskConfig{Blocks: -1, Names: 1}, 0},
		{api.DiskConfig{Blocks: math.MinInt, Names: 1}, 0},
		{api.DiskConfig{Blocks: api.MaxBlocks + 1, Names: 1}, 0},
		{api.DiskConfig{Blocks: math.MaxInt, Names: 1}, 0},
		{api.DiskConfig{Blocks: 1, Names: 0}, 1},
		{api.DiskConfig{Blocks: 1, Names: -1}, 1},
		{api.DiskConfig{Blocks: 1, Names: api.MaxNames + 1}, 1},
		{api.DiskConfig{Blocks: 1, Names: math.MaxInt}, 1},
		{api.DiskConfig{Blocks: 1, Names: math.MinInt}, 1},
		{api.DiskConfig{}, 0},
		{api.DiskConfig{Blocks: api.MaxBlocks + 1, Names: api.MaxNames + 1}, 0},
	} {
		d, err := disk.New(c.config)
		faulty(t, "New", d, err, c.at, api.ErrDiskConfig)
		if _, again := disk.New(c.config); again == err {
			t.Fatal("one fault was given twice")
		}
	}
}

func TestNoDisk(t *testing.T) { // DOC.md, 'What holds everywhere'
	for _, d := range []*disk.Disk{nil, {}} {
		is(t, "Create", d.Create("a"), api.ErrZero)
		is(t, "Create of no name", d.Create(""), api.ErrZero)
		is(t, "Append", d.Append("a", []byte("x")), api.ErrZero)
		is(t, "Truncate", d.Truncate("a", -1), api.ErrZero)
		is(t, "Sync", d.Sync("a"), api.ErrZero)
		is(t, "Rename", d.Rename("a", "a"), api.ErrZero)
		is(t, "Remove", d.Remove("a"), api.ErrZero)
		is(t, "SyncDir", d.SyncDir(), api.ErrZero)
		if b, c := d.Read("a", -1, 1); b != nil || c != api.ErrZero {
			t.Fatal(b, c)
		}
		if n, c := d.Size("a"); n != 0 || c != api.ErrZero {
			t.Fatal(n, c)
		}
		d.Quota(3)
		d.Fuse(2)
		d.Cut(api.PowerCut{Files: []api.DiskKeep{{Id: 1, Units: 1}}, Dir: 1})
		used(t, d, 0)
		lists(t, d)
		sameImage(t, "no disk", d.Image(), api.DiskImage{})
		is(t, "Create behind all", d.Create("a"), api.ErrZero)
	}
}

func TestUsed(t *testing.T) { // P1.3
	d := fresh(t, 100, 4)
	for _, c := range []struct{ size, blocks int }{{0, 1}, {1, 1}, {511, 1}, {512, 1}, {513, 2}, {1024, 2}, {1025, 3}} {
		ok(t, d.Create("a"), d.Append("a", filled(c.size)))
		used(t, d, c.blocks)
		ok(t, d.Sync("a"))
		used(t, d, c.blocks)
		ok(t, d.Remove("a"))
		used(t, d, c.blocks)
		ok(t, d.SyncDir())
		used(t, d, 0)
	}
}

func TestUsedByPeak(t *testing.T) { // P1.3
	d := fresh(t, 100, 4)
	ok(t, d.Create("a"), d.Append("a", filled(1000)), d.Sync("a"), d.SyncDir(), d.Create("b"))
	ok(t, d.Truncate("a", 0))
	used(t, d, 3)
	ok(t, d.Append("a", filled(600)))
	used(t, d, 3)
	ok(t, d.Append("a", filled(425)), d.Truncate("a", 10))
	used(t, d, 4)
	ok(t, d.Sync("a"))
	used(t, d, 2)
}

func TestUsedWithoutName(t *testing.T) { // P1.3: a file that another took the name of is there till SyncDir
	d := fresh(t, 100, 4)
	ok(t, d.Create("a"), d.Create("b"), d.Append("b", filled(1000)), d.Rename("a", "b"))
	used(t, d, 3)
	ok(t, d.SyncDir())
	used(t, d, 1)
}

func TestQuota(t *testing.T) { // P1.3
	d := fresh(t, 3, 2)
	ok(t, d.Create("a"), d.Append("a", filled(513)))
	for _, c := range []struct{ blocks, want int }{
		{-1, 0}, {math.MinInt, 0}, {0, 0}, {1, 1}, {2, 2}, {api.MaxBlocks, api.MaxBlocks},
		{api.MaxBlocks + 1, api.MaxBlocks}, {math.MaxInt, api.MaxBlocks},
	} {
		want := d.Image()
		want.Config.Blocks = c.want
		d.Quota(c.blocks)
		sameImage(t, "quota", d.Image(), want)
		used(t, d, 2)
	}
	d.Fuse(0)
	d.Quota(1)
	if img := d.Image(); img.Config.Blocks != 1 || img.Left != 0 {
		t.Fatal("a quota while the power is off:", img)
	}
	used(t, d, 2)
	d.Cut(api.PowerCut{})
	is(t, "Create with the quota", d.Create("a"), api.OK)
	is(t, "Create beyond it", d.Create("b"), api.ErrDiskFull)
}

func TestFuse(t *testing.T) { // P1.6
	d := fresh(t, 9, 9)
	d.Fuse(3)
	if left := d.Image().Left; left != 3 {
		t.Fatal(left)
	}
	ok(t, d.Create("a"))
	if left := d.Image().Left; left != 2 {
		t.Fatal(left)
	}
	d.Fuse(1)
	ok(t, d.Create("b"))
	if left := d.Image().Left; left != 0 {
		t.Fatal(left)
	}
	for _, writes := range []int{5, 0, -1} {
		d.Fuse(writes)
		is(t, "Create without power", d.Create("c"), api.ErrDiskOff)
	}
	d.Cut(api.PowerCut{Dir: 2})
	lists(t, d, row{"a", 0}, row{"b", 0})
	if left := d.Image().Left; left != -1 {
		t.Fatal(left)
	}
	d.Fuse(1)
	d.Fuse(math.MinInt)
	if left := d.Image().Left; left != -1 {
		t.Fatal(left)
	}
	ok(t, d.Create("c"), d.Create("d"))
	d.Fuse(math.MaxInt)
	ok(t, d.Create("e"))
	if left := d.Image().Left; left != math.MaxInt-1 {
		t.Fatal(left)
	}
	d.Fuse(0)
	is(t, "Create with no write left", d.Create("f"), api.ErrDiskOff)
	d.Fuse(4)
	d.Cut(api.PowerCut{})
	lists(t, d, row{"a", 0}, row{"b", 0})
}

func TestFuseCountsWhatIsDone(t *testing.T) { // P1.4: a refused write does not count, one without a change does
	d := fresh(t, 9, 2)
	ok(t, d.Create("a"))
	d.Fuse(9)
	for i, write := range []func() api.Errno{
		func() api.Errno { return d.Create("b") },
		func() api.Errno { return d.Append("a", []byte("xyz")) },
		func() api.Errno { return d.Append("a", nil) },
		func() api.Errno { return d.Truncate("a", 2) },
		func() api.Errno { return d.Truncate("a", 2) },
		func() api.Errno { return d.Sync("a") },
		func() api.Errno { return d.Rename("a", "b") },
		func() api.Errno { return d.Remove("b") },
		func() api.Errno { return d.SyncDir() },
	} {
		if left := d.Image().Left; left != 9-i {
			t.Fatal(i, left)
		}
		is(t, "Create", d.Create("A"), api.ErrDiskName)
		d.Used()
		d.Size("a")
		d.Read("a", 0, 1)
		listed(d)
		is(t, "write", write(), api.OK)
	}
	if left := d.Image().Left; left != 0 {
		t.Fatal(left)
	}
}
