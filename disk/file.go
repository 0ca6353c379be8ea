package disk

import (
	"bytes"
	"math"

	"modality/api"
)

// allUnits is more than any file's changes have.
const allUnits = math.MaxInt

// file is a file: the bytes that no power cut takes, and the changes since. All memory is its own.
type file struct {
	id      uint64
	held    []byte
	changes []api.DiskChange
	size    int // length with all changes made
	peak    int // greatest length behind any beginning of the changes
}

func newFile(id uint64, held []byte) *file {
	return &file{id: id, held: bytes.Clone(held), size: len(held), peak: len(held)}
}

// blocksOf tells how many blocks a file of that peak takes.
func blocksOf(peak int) int {
	return max(1, (peak+api.DiskBlock-1)/api.DiskBlock)
}

func (f *file) blocks() int {
	return blocksOf(f.peak)
}

// growth tells how many blocks more the file takes with n bytes more behind its end.
func (f *file) growth(n int) int {
	return blocksOf(max(f.peak, f.size+n)) - f.blocks()
}

// fits tells whether a change is one that a write leaves on the file as it is now.
func (f *file) fits(c api.DiskChange) bool {
	if c.Cut {
		return len(c.Data) == 0 && c.Len >= 0 && c.Len < f.size
	}
	return len(c.Data) > 0 && c.Len == 0
}

// change makes a change that a power cut may take back.
func (f *file) change(c api.DiskChange) {
	f.changes = append(f.changes, copyChange(c))
	if c.Cut {
		f.size = c.Len
	} else {
		f.size += len(c.Data)
	}
	f.peak = max(f.peak, f.size)
}

func copyChange(c api.DiskChange) api.DiskChange {
	c.Data = copyBytes(c.Data)
	return c
}

// copyBytes gives nil for no bytes, whatever came in.
func copyBytes(b []byte) []byte {
	return append([]byte(nil), b...)
}

// settle makes the changes up to a number of units and holds what the file has then; the others are gone.
func (f *file) settle(units int) {
	f.held = lay(f.held, f.changes, units)
	f.changes = nil
	f.size = len(f.held)
	f.peak = f.size
}

// now gives the file's bytes, to be read only: they may be the held ones themselves.
func (f *file) now() []byte {
	if len(f.changes) == 0 {
		return f.held
	}
	return lay(bytes.Clone(f.held), f.changes, allUnits)
}

// lay makes changes on bytes, in their own memory, up to a number of units.
func lay(b []byte, changes []api.DiskChange, units int) []byte {
	rest := max(units, 0)
	for _, c := range changes {
		if rest == 0 {
			break
		}
		if c.Cut {
			b = b[:c.Len]
			rest--
			continue
		}
		n := min(rest, len(c.Data))
		b = append(b, c.Data[:n]...)
		rest -= n
	}
	return b
}

func (f *file) node() api.DiskNode {
	n := api.DiskNode{Id: f.id, Held: copyBytes(f.held)}
	for _, c := range f.changes {
		n.Changes = append(n.Changes, copyChange(c))
	}
	return n
}
