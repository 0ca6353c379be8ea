package journal

import (
	"errors"

	"modality/api"
	"modality/disk"
)

// step is one write of a call's list.
type step struct {
	number int // its place in the document's list, whatever is left out ahead of it
	needed func() bool
	deed   func() api.Errno
}

func always() bool { return true }

// run does the steps that are needed, and tells the first refusal in this layer's words.
func run(steps []step) error {
	return told(firstRefusal(steps))
}

// firstRefusal does the steps in their order, up to the first that the disk refuses.
func firstRefusal(steps []step) error {
	for _, s := range steps {
		if !s.needed() {
			continue
		}
		if e := s.deed(); e != api.OK {
			return refusal(s.number, e)
		}
	}
	return nil
}

// told leaves of the disk's reasons what a caller asks: whether room would help.
func told(err error) error {
	var f *api.Fault
	if !errors.As(err, &f) {
		return err
	}
	if wantsRoom(err) {
		return refusal(f.At, api.ErrJournalFull)
	}
	return refusal(f.At, api.ErrJournalOff)
}

func wantsRoom(err error) bool {
	return errors.Is(err, api.ErrDiskFull) || errors.Is(err, api.ErrDiskNames) || errors.Is(err, api.ErrDiskSpent)
}

// slot is one of the two files as a call finds it: what its steps hang on is looked at once, ahead of the first write, since nothing can be seen when the power has gone between them.
type slot struct {
	disk    *disk.Disk
	name    string
	missing bool
	size    int
}

// find looks at a slot; without power it seems to be there and to have no bytes.
func find(d *disk.Disk, name string) slot {
	size, e := d.Size(name)
	return slot{disk: d, name: name, missing: e == api.ErrDiskNone, size: size}
}

func (s slot) isMissing() bool { return s.missing }

func (s slot) isThere() bool { return !s.missing }

func (s slot) hasBytes() bool { return s.size > 0 }

func (s slot) create() api.Errno { return s.disk.Create(s.name) }

func (s slot) empty() api.Errno { return s.disk.Truncate(s.name, 0) }

func (s slot) hold() api.Errno { return s.disk.Sync(s.name) }

func (s slot) laying(data []byte) func() api.Errno {
	return func() api.Errno { return s.disk.Append(s.name, data) }
}

func (s slot) cutting(size int) func() api.Errno {
	return func() api.Errno { return s.disk.Truncate(s.name, size) }
}

// scan reads the slot's bytes; the generation is 0 if they are not whole.
func (s slot) scan() api.JournalScan {
	data, _ := s.disk.Read(s.name, 0, s.size)
	scanned, _ := Scan(data)
	return scanned
}
