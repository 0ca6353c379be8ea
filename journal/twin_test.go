package journal_test

import (
	"testing"

	"modality/api"
	"modality/disk"
	"modality/journal"
)

// A twin is a second disk of the same image on which a test does the writes that the document lists; whatever the fuse, both disks must be the same, and the fault must name the write that the twin refused.

type write struct {
	at int // its number in the document's list
	do func(d *disk.Disk) api.Errno
}

func create(at int, name string) write {
	return write{at, func(d *disk.Disk) api.Errno { return d.Create(name) }}
}

func lay(at int, name string, data []byte) write {
	return write{at, func(d *disk.Disk) api.Errno { return d.Append(name, data) }}
}

func cut(at int, name string, size int) write {
	return write{at, func(d *disk.Disk) api.Errno { return d.Truncate(name, size) }}
}

func hold(at int, name string) write {
	return write{at, func(d *disk.Disk) api.Errno { return d.Sync(name) }}
}

func holdDir(at int) write {
	return write{at, func(d *disk.Disk) api.Errno { return d.SyncDir() }}
}

// refusedAt does the writes, and tells the number of the one that the disk refuses, and why.
func refusedAt(d *disk.Disk, writes []write) (int, api.Errno) {
	for _, w := range writes {
		if e := w.do(d); e != api.OK {
			return w.at, e
		}
	}
	return 0, api.OK
}

func word(e api.Errno) api.Errno {
	switch e {
	case api.OK:
		return api.OK
	case api.ErrDiskFull, api.ErrDiskNames, api.ErrDiskSpent:
		return api.ErrJournalFull
	}
	return api.ErrJournalOff
}

// asTwin holds a call against the writes: on the disk as it is (quota and fuse are in the image).
func asTwin(t *testing.T, what string, d *disk.Disk, writes []write, call func() error) (at int, reason api.Errno) {
	t.Helper()
	twin := loadDisk(t, d.Image())
	at, e := refusedAt(twin, writes)
	err := call()
	if e == api.OK {
		if err != nil {
			t.Fatalf("%s: %v", what, err)
		}
	} else {
		faulty(t, what, err, at, word(e))
	}
	sameImage(t, what, d.Image(), twin.Image())
	return at, word(e)
}

// openAsTwin opens the image with every fuse from 1 write on, and without one.
func openAsTwin(t *testing.T, what string, img api.DiskImage, writes []write) *journal.Journal {
	t.Helper()
	var j *journal.Journal
	for fuse := 1; fuse <= len(writes)+1; fuse++ {
		img.Left = fuse
		if fuse > len(writes) {
			img.Left = -1
		}
		d := loadDisk(t, img)
		asTwin(t, what, d, writes, func() error {
			var err error
			j, _, _, err = journal.Open(d)
			return err
		})
	}
	return j
}
