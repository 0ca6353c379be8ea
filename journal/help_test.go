package journal_test

import (
	"bytes"
	"encoding/binary"
	"errors"
	"hash/crc32"
	"reflect"
	"testing"

	"modality/api"
	"modality/disk"
	"modality/journal"
)

func newDisk(t *testing.T, blocks, names int) *disk.Disk {
	t.Helper()
	d, err := disk.New(api.DiskConfig{Blocks: blocks, Names: names})
	if err != nil {
		t.Fatal(err)
	}
	return d
}

func loadDisk(t *testing.T, img api.DiskImage) *disk.Disk {
	t.Helper()
	d, err := disk.Load(img)
	if err != nil {
		t.Fatal(err)
	}
	return d
}

func faulty(t *testing.T, what string, err error, at int, reason api.Errno) {
	t.Helper()
	f, ok := err.(*api.Fault)
	if !ok || f == nil || f.Layer != "journal" || f.At != at || f.Err != reason {
		t.Fatalf("%s: %v, not a fault of journal at %d: %d", what, err, at, reason)
	}
}

// bodies makes a list of bodies of texts; an empty one is nil, as in an answer.
func bodies(texts ...string) [][]byte {
	var list [][]byte
	for _, s := range texts {
		list = append(list, append([]byte(nil), s...))
	}
	return list
}

func same(t *testing.T, what string, got, want [][]byte) {
	t.Helper()
	if !reflect.DeepEqual(got, want) {
		t.Fatalf("%s: %q, not %q", what, got, want)
	}
}

func sameImage(t *testing.T, what string, got, want api.DiskImage) {
	t.Helper()
	if !reflect.DeepEqual(got, want) {
		t.Fatalf("%s:\n%+v, not\n%+v", what, got, want)
	}
}

func opens(t *testing.T, d *disk.Disk, base, records [][]byte) *journal.Journal {
	t.Helper()
	j, b, r, err := journal.Open(d)
	if err != nil || j == nil {
		t.Fatalf("Open: %v, %v", j, err)
	}
	same(t, "base", b, base)
	same(t, "records", r, records)
	return j
}

// openRefused: no journal, nothing told, and this fault.
func openRefused(t *testing.T, what string, d *disk.Disk, at int, reason api.Errno) {
	t.Helper()
	j, b, r, err := journal.Open(d)
	if j != nil || b != nil || r != nil {
		t.Fatalf("%s: %v, %q, %q beside a refusal", what, j, b, r)
	}
	faulty(t, what, err, at, reason)
}

func commits(t *testing.T, j *journal.Journal, texts ...string) {
	t.Helper()
	for _, s := range texts {
		if err := j.Commit([]byte(s)); err != nil {
			t.Fatalf("Commit of %d bytes: %v", len(s), err)
		}
	}
}

func compacts(t *testing.T, j *journal.Journal, texts ...string) {
	t.Helper()
	if err := j.Compact(bodies(texts...)); err != nil {
		t.Fatalf("Compact: %v", err)
	}
}

func stateIs(t *testing.T, j *journal.Journal, want api.JournalState) {
	t.Helper()
	if got := j.State(); got != want {
		t.Fatalf("state %+v, not %+v", got, want)
	}
	if got := j.Count(); got != want.Records {
		t.Fatalf("count %d, not %d", got, want.Records)
	}
}

func sizeIs(t *testing.T, d *disk.Disk, name string, want int) {
	t.Helper()
	if n, e := d.Size(name); e != api.OK || n != want {
		t.Fatalf("%s: %d bytes (%d), not %d", name, n, e, want)
	}
}

// What follows says the forms once more, by other means than the program.

func number(to []byte, n uint32) []byte { return binary.LittleEndian.AppendUint32(to, n) }

func sealed(b []byte) []byte { return number(b, crc32.ChecksumIEEE(b)) }

func rawFrame(mark byte, n, size uint32, body []byte) []byte {
	b := sealed(number(number([]byte{mark}, n), size))
	return append(b, sealed(bytes.Clone(body))...)
}

func frame(n int, body []byte) []byte {
	return rawFrame(0xa5, uint32(n), uint32(len(body)), body)
}

func frames(list [][]byte) []byte {
	var b []byte
	for i, body := range list {
		b = append(b, frame(i, body)...)
	}
	return b
}

func rawHead(magic string, gen uint64, count, size uint32) []byte {
	return sealed(number(number(binary.LittleEndian.AppendUint64([]byte(magic), gen), count), size))
}

const magic = "MWJ\x01"

func slotOf(gen uint64, base, records [][]byte) []byte {
	b := frames(base)
	return bytes.Join([][]byte{rawHead(magic, gen, uint32(len(base)), uint32(len(b))), b, frames(records)}, nil)
}

// put makes a file with these bytes, all of it held.
func put(t *testing.T, d *disk.Disk, name string, data []byte) {
	t.Helper()
	for _, e := range []api.Errno{d.Create(name), d.Append(name, data), d.Sync(name), d.SyncDir()} {
		if e != api.OK {
			t.Fatalf("%s: %d", name, e)
		}
	}
}

func isErr(err error, reason api.Errno) bool { return errors.Is(err, reason) }
