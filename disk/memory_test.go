package disk_test

import (
	"testing"

	"modality/api"
	"modality/disk"
)

// DOC.md, 'Memory': what is handed in is neither changed nor kept, what is handed out is new.

// smear writes over a byte string, spare room included.
func smear(b []byte) {
	b = b[:cap(b)]
	for i := range b {
		b[i] = '#'
	}
}

func smearImage(img api.DiskImage) {
	for i := range img.Nodes {
		smear(img.Nodes[i].Held)
		for j := range img.Nodes[i].Changes {
			smear(img.Nodes[i].Changes[j].Data)
		}
		clear(img.Nodes[i].Changes[:cap(img.Nodes[i].Changes)])
	}
	clear(img.Nodes[:cap(img.Nodes)])
	clear(img.Dir[:cap(img.Dir)])
	clear(img.Turns[:cap(img.Turns)])
}

// roomy is busyImage with spare room behind every list and every byte string.
func roomy() api.DiskImage {
	img := busyImage()
	img.Nodes = append(make([]api.DiskNode, 0, 9), img.Nodes...)
	for i := range img.Nodes {
		n := &img.Nodes[i]
		n.Held = append(make([]byte, 0, 99), n.Held...)
		n.Changes = append(make([]api.DiskChange, 0, 9), n.Changes...)
		for j := range n.Changes {
			if !n.Changes[j].Cut {
				n.Changes[j].Data = append(make([]byte, 0, 99), n.Changes[j].Data...)
			}
		}
	}
	img.Dir = append(make([]api.DiskLink, 0, 9), img.Dir...)
	img.Turns = append(make([]api.DiskTurn, 0, 9), img.Turns...)
	return img
}

// work writes all over a disk of busyImage.
func work(t *testing.T, d *disk.Disk) {
	t.Helper()
	d.Fuse(-1)
	ok(t, d.Append("b", []byte("more")), d.Sync("b"), d.Append("c", []byte("cc")), d.Truncate("b", 1), d.Append("b", []byte("again")))
	ok(t, d.Rename("b", "a"), d.Create("n"), d.SyncDir())
	d.Cut(api.PowerCut{Files: []api.DiskKeep{{Id: 2, Units: 3}}})
	reads(t, d, "a", "hag")
}

func TestLoadKeepsNothing(t *testing.T) {
	img := roomy()
	d := load(t, img)
	smearImage(img)
	sameImage(t, "the disk", d.Image(), busyImage())
}

func TestLoadChangesNothing(t *testing.T) {
	img := roomy()
	d := load(t, img)
	work(t, d)
	want := busyImage()
	for i := range want.Nodes { // an empty list with room is no nil
		if want.Nodes[i].Held == nil {
			want.Nodes[i].Held = []byte{}
		}
		if want.Nodes[i].Changes == nil {
			want.Nodes[i].Changes = []api.DiskChange{}
		}
	}
	sameImage(t, "what was handed in", img, want)
	for i := range img.Nodes {
		held := img.Nodes[i].Held
		for _, b := range held[len(held):cap(held)] {
			if b != 0 {
				t.Fatal("spare room was written into")
			}
		}
	}
}

func TestImageIsNew(t *testing.T) {
	d := busy(t)
	first, second := d.Image(), d.Image()
	smearImage(first)
	sameImage(t, "the other image", second, busyImage())
	sameImage(t, "the disk", d.Image(), busyImage())
	work(t, d)
	sameImage(t, "an image behind writes", second, busyImage())
}

func TestImageSharesNoListWithItself(t *testing.T) {
	d := fresh(t, 9, 9)
	ok(t, d.Create("a"), d.Create("b"), d.Append("a", []byte("aaa")), d.Append("a", []byte("bbb")), d.Append("b", []byte("ccc")))
	img := d.Image()
	smear(img.Nodes[0].Changes[0].Data)
	if string(img.Nodes[0].Changes[1].Data) != "bbb" || string(img.Nodes[1].Changes[0].Data) != "ccc" {
		t.Fatal(img)
	}
}

func TestAppendKeepsNothing(t *testing.T) {
	d := fresh(t, 9, 9)
	data := append(make([]byte, 0, 64), "hello"...)
	ok(t, d.Create("a"), d.Append("a", data))
	smear(data)
	reads(t, d, "a", "hello")
	ok(t, d.Sync("a"))
	reads(t, d, "a", "hello")
}

func TestAppendChangesNothing(t *testing.T) {
	d := fresh(t, 9, 9)
	data := []byte("hello there")
	ok(t, d.Create("a"), d.Append("a", data[:5]), d.Append("a", []byte("XXXX")), d.Sync("a"), d.Append("a", []byte("YYYY")), d.Sync("a"))
	if string(data) != "hello there" {
		t.Fatalf("%q", data)
	}
}

func TestReadIsNew(t *testing.T) {
	d := fresh(t, 9, 9)
	ok(t, d.Create("a"), d.Append("a", []byte("hello")), d.Sync("a"))
	for range 2 {
		first, _ := d.Read("a", 0, 3)
		second, _ := d.Read("a", 0, 9)
		smear(first)
		if string(second) != "hello" {
			t.Fatalf("%q", second)
		}
		smear(second)
		reads(t, d, "a", "hello")
		ok(t, d.Truncate("a", 4), d.Append("a", []byte("o"))) // the same bytes, in changes
	}
	kept, _ := d.Read("a", 0, 9)
	ok(t, d.Truncate("a", 0), d.Append("a", []byte("world")), d.Sync("a"))
	if string(kept) != "hello" {
		t.Fatalf("%q", kept)
	}
}

func TestCutChangesNothing(t *testing.T) {
	d := busy(t)
	keeps := []api.DiskKeep{{Id: 2, Units: 2}, {Id: 2, Units: -5}, {Id: 7, Units: 1}, {Id: 1, Units: 9}}
	d.Cut(api.PowerCut{Files: keeps[:2], Dir: 99})
	if keeps[0] != (api.DiskKeep{Id: 2, Units: 2}) || keeps[1].Units != -5 || keeps[2].Id != 7 || keeps[3].Units != 9 {
		t.Fatal(keeps)
	}
}
