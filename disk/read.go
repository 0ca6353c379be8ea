package disk

import (
	"iter"

	"modality/api"
)

// Read tells up to n bytes of a file, from a place on (P1.5).
func (d *Disk) Read(name string, at, n int) ([]byte, api.Errno) {
	f, c := d.find(name)
	if c != api.OK {
		return nil, c
	}
	if at < 0 || n < 0 || at > f.size {
		return nil, api.ErrDiskRange
	}
	// n may be so great that at and n together are no int.
	end := at + min(n, f.size-at)
	return copyBytes(f.now()[at:end]), api.OK
}

// Size tells how many bytes a file has (P1.5).
func (d *Disk) Size(name string) (int, api.Errno) {
	f, c := d.find(name)
	if c != api.OK {
		return 0, c
	}
	return f.size, api.OK
}

// List gives all names with their files' sizes to range over, rising (P1.5).
func (d *Disk) List() iter.Seq2[string, int] {
	return func(yield func(string, int) bool) {
		rising(d.sizes())(yield)
	}
}

// sizes takes all sizes down at once: who ranges over them may write meanwhile.
func (d *Disk) sizes() map[string]int {
	if d.refuse() != api.OK {
		return nil
	}
	sizes := map[string]int{}
	for name, f := range d.names {
		sizes[name] = f.size
	}
	return sizes
}
