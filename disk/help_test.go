package disk_test

import (
	"bytes"
	"errors"
	"reflect"
	"testing"

	"modality/api"
	"modality/disk"
)

func fresh(t *testing.T, blocks, names int) *disk.Disk {
	t.Helper()
	d, err := disk.New(api.DiskConfig{Blocks: blocks, Names: names})
	if err != nil || d == nil {
		t.Fatal(d, err)
	}
	return d
}

func load(t *testing.T, img api.DiskImage) *disk.Disk {
	t.Helper()
	d, err := disk.Load(img)
	if err != nil || d == nil {
		t.Fatalf("Load of %+v: %v", img, err)
	}
	return d
}

func is(t *testing.T, what string, got, want api.Errno) {
	t.Helper()
	if got != want {
		t.Fatalf("%s: %d, not %d", what, got, want)
	}
}

func ok(t *testing.T, answers ...api.Errno) {
	t.Helper()
	for i, c := range answers {
		if c != api.OK {
			t.Fatalf("write %d: %d", i, c)
		}
	}
}

func used(t *testing.T, d *disk.Disk, want int) {
	t.Helper()
	if got := d.Used(); got != want {
		t.Fatalf("used: %d, not %d", got, want)
	}
}

func reads(t *testing.T, d *disk.Disk, name, want string) {
	t.Helper()
	b, c := d.Read(name, 0, 1<<30)
	if c != api.OK || string(b) != want {
		t.Fatalf("%s: %q %d, not %q", name, b, c, want)
	}
	if n, c := d.Size(name); c != api.OK || n != len(want) {
		t.Fatalf("size of %s: %d %d, not %d", name, n, c, len(want))
	}
}

type row struct {
	Name string
	Size int
}

func listed(d *disk.Disk) []row {
	var list []row
	for name, size := range d.List() {
		list = append(list, row{name, size})
	}
	return list
}

func lists(t *testing.T, d *disk.Disk, want ...row) {
	t.Helper()
	if got := listed(d); !reflect.DeepEqual(got, want) {
		t.Fatalf("list: %v, not %v", got, want)
	}
}

func sameImage(t *testing.T, what string, got, want api.DiskImage) {
	t.Helper()
	if !reflect.DeepEqual(got, want) {
		t.Fatalf("%s:\n%+v, not\n%+v", what, got, want)
	}
}

// unchanged does a write that must be refused so, and looks that the disk is as it was.
func unchanged(t *testing.T, d *disk.Disk, want api.Errno, what string, write func() api.Errno) {
	t.Helper()
	before, blocks := d.Image(), d.Used()
	is(t, what, write(), want)
	sameImage(t, what, d.Image(), before)
	used(t, d, blocks)
}

func faulty(t *testing.T, what string, d *disk.Disk, err error, at int, reason api.Errno) {
	t.Helper()
	var f *api.Fault
	if d != nil || !errors.As(err, &f) || f.Layer != "disk" || f.At != at || f.Err != reason {
		t.Fatalf("%s: %v, %v, not a fault of disk at %d: %d", what, d, err, at, reason)
	}
}

func filled(n int) []byte {
	return bytes.Repeat([]byte{'x'}, n)
}
