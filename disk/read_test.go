package disk_test

import (
	"math"
	"testing"

	"modality/api"
)

func TestRead(t *testing.T) { // P1.5
	d := fresh(t, 9, 9)
	ok(t, d.Create("a"), d.Append("a", []byte("hello")), d.Sync("a"), d.Truncate("a", 3), d.Append("a", []byte("p me")))
	for _, c := range []struct {
		at, n int
		want  string
		errno api.Errno
	}{
		{0, 7, "help me", api.OK},
		{0, 0, "", api.OK},
		{0, 1, "h", api.OK},
		{2, 3, "lp ", api.OK},
		{5, 2, "me", api.OK},
		{5, 3, "me", api.OK},
		{6, math.MaxInt, "e", api.OK},
		{7, 0, "", api.OK},
		{7, math.MaxInt, "", api.OK},
		{8, 0, "", api.ErrDiskRange},
		{math.MaxInt, math.MaxInt, "", api.ErrDiskRange},
		{-1, 1, "", api.ErrDiskRange},
		{math.MinInt, 1, "", api.ErrDiskRange},
		{0, -1, "", api.ErrDiskRange},
		{7, math.MinInt, "", api.ErrDiskRange},
	} {
		b, errno := d.Read("a", c.at, c.n)
		if string(b) != c.want || errno != c.errno || len(b) == 0 && b != nil {
			t.Fatalf("%d, %d: %q %d, not %q %d", c.at, c.n, b, errno, c.want, c.errno)
		}
	}
	if n, c := d.Size("a"); n != 7 || c != api.OK {
		t.Fatal(n, c)
	}
	ok(t, d.Sync("a"))
	reads(t, d, "a", "help me")
	if b, c := d.Read("a", 7, 1); b != nil || c != api.OK {
		t.Fatalf("%#v %d", b, c)
	}
}

func TestList(t *testing.T) { // P1.5
	d := fresh(t, 20, 9)
	ok(t, d.Create("b"), d.Create("a0"), d.Create("a-"), d.Create("a"), d.Create("z.9"), d.SyncDir())
	ok(t, d.Append("b", []byte("xyz")), d.Remove("a-"), d.Rename("z.9", "0"))
	lists(t, d, row{"0", 0}, row{"a", 0}, row{"a0", 0}, row{"b", 3})
}

func TestListIsOfTheMomentOfRanging(t *testing.T) { // P1.5
	d := fresh(t, 20, 9)
	list := d.List()
	ok(t, d.Create("a"), d.Create("b"))
	var got []row
	for name, size := range list {
		got = append(got, row{name, size})
		if name == "a" {
			ok(t, d.Append("b", []byte("xyz")), d.Create("c"), d.Remove("a"))
			d.Fuse(0)
		}
	}
	if len(got) != 2 || got[0] != (row{"a", 0}) || got[1] != (row{"b", 0}) {
		t.Fatal(got)
	}
	for name := range list {
		t.Fatal("without power:", name)
	}
	d.Cut(api.PowerCut{Dir: 9})
	got = nil
	for name, size := range list {
		got = append(got, row{name, size})
	}
	if len(got) != 2 || got[0] != (row{"b", 0}) || got[1] != (row{"c", 0}) {
		t.Fatal(got)
	}
}

func TestListMayBeLeft(t *testing.T) { // P1.5
	d := fresh(t, 20, 9)
	ok(t, d.Create("a"), d.Create("b"))
	list := d.List()
	for range 3 {
		n := 0
		for name := range list {
			n++
			if name != "a" {
				t.Fatal(name)
			}
			break
		}
		if n != 1 {
			t.Fatal(n)
		}
	}
	for name := range list { // one ranging inside another
		for inner := range list {
			_, _ = name, inner
		}
	}
	lists(t, d, row{"a", 0}, row{"b", 0})
}
