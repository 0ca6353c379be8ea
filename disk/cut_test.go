package disk_test

import (
	"math"
	"testing"

	"modality/api"
)

func cutOf(t *testing.T, img api.DiskImage, dir int, keeps ...api.DiskKeep) api.DiskImage {
	t.Helper()
	d := load(t, img)
	blocks := d.Used()
	d.Cut(api.PowerCut{Files: keeps, Dir: dir})
	if d.Used() > blocks {
		t.Fatal("a cut raised what is used") // P1.10
	}
	return d.Image()
}

func TestCutOfAFile(t *testing.T) { // P1.7
	d := fresh(t, 9, 9)
	ok(t, d.Create("a"), d.Create("b"), d.Append("a", []byte("hello")), d.Append("b", []byte("b")), d.Sync("a"), d.SyncDir())
	ok(t, d.Append("a", []byte("xy")), d.Truncate("a", 2), d.Truncate("a", 1), d.Append("a", []byte("pqr")), d.Append("b", []byte("cd")))
	img := d.Image()
	for _, c := range []struct {
		units int
		want  string
	}{
		{math.MinInt, "hello"}, {-1, "hello"}, {0, "hello"}, {1, "hellox"}, {2, "helloxy"}, {3, "he"}, {4, "h"},
		{5, "hp"}, {6, "hpq"}, {7, "hpqr"}, {8, "hpqr"}, {math.MaxInt, "hpqr"},
	} {
		got := cutOf(t, img, 0, api.DiskKeep{Id: 9, Units: 3}, api.DiskKeep{Id: 1, Units: c.units}, api.DiskKeep{Id: 1, Units: 2})
		want := img
		want.Nodes = []api.DiskNode{{Id: 1, Held: []byte(c.want)}, {Id: 2}}
		sameImage(t, "cut", got, want)
	}
	got := cutOf(t, img, 0, api.DiskKeep{Id: 2, Units: 2}, api.DiskKeep{Id: 0, Units: 7}, api.DiskKeep{Id: math.MaxUint64, Units: 7})
	if string(got.Nodes[0].Held) != "hello" || string(got.Nodes[1].Held) != "bc" {
		t.Fatal(got)
	}
}

func TestCutOfTheDirectory(t *testing.T) { // P1.7
	d := fresh(t, 9, 9)
	ok(t, d.Create("a"), d.Create("b"), d.Append("a", []byte("old")), d.Sync("a"), d.SyncDir())
	ok(t, d.Create("c"), d.Append("c", []byte("new")), d.Sync("c"), d.Rename("c", "a"), d.Remove("b"), d.Create("b"))
	img := d.Image()
	for _, c := range []struct {
		dir  int
		want []api.DiskLink
	}{
		{math.MinInt, []api.DiskLink{{Name: "a", Id: 1}, {Name: "b", Id: 2}}},
		{-1, []api.DiskLink{{Name: "a", Id: 1}, {Name: "b", Id: 2}}},
		{0, []api.DiskLink{{Name: "a", Id: 1}, {Name: "b", Id: 2}}},
		{1, []api.DiskLink{{Name: "a", Id: 1}, {Name: "b", Id: 2}, {Name: "c", Id: 3}}},
		{2, []api.DiskLink{{Name: "a", Id: 3}, {Name: "b", Id: 2}}},
		{3, []api.DiskLink{{Name: "a", Id: 3}}},
		{4, []api.DiskLink{{Name: "a", Id: 3}, {Name: "b", Id: 4}}},
		{5, []api.DiskLink{{Name: "a", Id: 3}, {Name: "b", Id: 4}}},
		{math.MaxInt, []api.DiskLink{{Name: "a", Id: 3}, {Name: "b", Id: 4}}},
	} {
		got := cutOf(t, img, c.dir)
		want := api.DiskImage{Config: img.Config, Dir: c.want, Next: 5, Left: -1}
		for _, n := range img.Nodes {
			for _, l := range c.want {
				if l.Id == n.Id {
					want.Nodes = append(want.Nodes, n)
				}
			}
		}
		sameImage(t, "cut", got, want)
		e := load(t, got)
		used(t, e, len(c.want))
		if len(listed(e)) != len(c.want) {
			t.Fatal(listed(e))
		}
	}
}

func TestCutBringsThePowerBack(t *testing.T) { // P1.7
	for _, writes := range []int{-1, 0, 1, 7} {
		d := fresh(t, 9, 9)
		ok(t, d.Create("a"), d.SyncDir())
		d.Fuse(writes)
		d.Cut(api.PowerCut{})
		if left := d.Image().Left; left != -1 {
			t.Fatal(left)
		}
		ok(t, d.Append("a", []byte("x")), d.Sync("a"))
		lists(t, d, row{"a", 1})
	}
}

func TestExampleTwo(t *testing.T) { // P1.7, the document's example 2
	d := fresh(t, 3, 2)
	ok(t, d.Create("a"), d.Append("a", filled(512)), d.Append("a", filled(1)), d.Create("b"), d.Append("b", filled(512)))
	img := d.Image()
	d.Cut(api.PowerCut{Files: []api.DiskKeep{{Id: 1, Units: 513}, {Id: 2, Units: 3}}, Dir: 1})
	lists(t, d, row{"a", 513})
	used(t, d, 2)
	if img := d.Image(); len(img.Nodes) != 1 {
		t.Fatal(img)
	}
	sameImage(t, "nothing is left", cutOf(t, img, 0), api.DiskImage{Config: img.Config, Next: 3, Left: -1})
}

func TestExampleFive(t *testing.T) { // P1.8, the document's example 5: a moved and a replaced file
	d := fresh(t, 3, 2)
	ok(t, d.Create("a"), d.Append("a", []byte("new")), d.Sync("a"), d.Create("b"), d.Append("b", []byte("old")), d.Sync("b"), d.SyncDir(), d.Rename("a", "b"))
	img := d.Image()
	d.Cut(api.PowerCut{})
	reads(t, d, "a", "new")
	reads(t, d, "b", "old")
	d = load(t, img)
	d.Cut(api.PowerCut{Dir: 1})
	reads(t, d, "b", "new")
	lists(t, d, row{"b", 3})
	used(t, d, 1)
}
