package disk

import "modality/api"

// refuse tells why no call with these names can be, or OK.
func (d *Disk) refuse(names ...string) api.Errno {
	if !d.made() {
		return api.ErrZero
	}
	if d.left == 0 {
		return api.ErrDiskOff
	}
	for _, name := range names {
		if !isName(name) {
			return api.ErrDiskName
		}
	}
	return api.OK
}

// find gives the file of a name, or why there is none.
func (d *Disk) find(name string) (*file, api.Errno) {
	if c := d.refuse(name); c != api.OK {
		return nil, c
	}
	f := d.names[name]
	if f == nil {
		return nil, api.ErrDiskNone
	}
	return f, api.OK
}

// done counts a write that took effect.
func (d *Disk) done() api.Errno {
	if d.left > 0 {
		d.left--
	}
	return api.OK
}

// turn changes the directory in a way that a power cut may take back.
func (d *Disk) turn(t turn) {
	d.names.apply(t)
	d.turns = append(d.turns, t)
}

// Create makes an empty file (P1.4).
func (d *Disk) Create(name string) api.Errno {
	if c := d.refuse(name); c != api.OK {
		return c
	}
	switch {
	case d.names[name] != nil:
		return api.ErrDiskTaken
	case len(d.names) >= d.most:
		return api.ErrDiskNames
	case d.next > api.MaxNodeNum:
		return api.ErrDiskSpent
	case d.used+1 > d.quota:
		return api.ErrDiskFull
	}
	f := newFile(d.next, nil)
	d.next++
	d.files = append(d.files, f)
	d.used += f.blocks()
	d.turn(turn{kind: api.TurnLink, name: name, file: f})
	return d.done()
}

// Append adds bytes behind a file's end, all or none (P1.4).
func (d *Disk) Append(name string, data []byte) api.Errno {
	f, c := d.find(name)
	if c != api.OK {
		return c
	}
	more := f.growth(len(data))
	if more > 0 && d.used+more > d.quota {
		return api.ErrDiskFull
	}
	if len(data) > 0 {
		f.change(api.DiskChange{Data: data})
	}
	d.used += more
	return d.done()
}

// Truncate cuts a file to its first bytes (P1.4).
func (d *Disk) Truncate(name string, size int) api.Errno {
	f, c := d.find(name)
	if c != api.OK {
		return c
	}
	if size < 0 || size > f.size {
		return api.ErrDiskRange
	}
	if size < f.size {
		f.change(api.DiskChange{Cut: true, Len: size})
	}
	return d.done()
}

// Sync makes a file's bytes safe (P1.4).
func (d *Disk) Sync(name string) api.Errno {
	f, c := d.find(name)
	if c != api.OK {
		return c
	}
	before := f.blocks()
	f.settle(allUnits)
	d.used += f.blocks() - before
	return d.done()
}

// Rename moves a file to another name, in the place of what had it (P1.4).
func (d *Disk) Rename(name, to string) api.Errno {
	if c := d.refuse(name, to); c != api.OK {
		return c
	}
	if d.names[name] == nil {
		return api.ErrDiskNone
	}
	if name == to {
		return api.ErrDiskSame
	}
	d.turn(turn{kind: api.TurnMove, name: name, to: to})
	return d.done()
}

// Remove takes a name away (P1.4).
func (d *Disk) Remove(name string) api.Errno {
	if _, c := d.find(name); c != api.OK {
		return c
	}
	d.turn(turn{kind: api.TurnUnlink, name: name})
	return d.done()
}

// SyncDir makes the directory safe (P1.4).
func (d *Disk) SyncDir() api.Errno {
	if c := d.refuse(); c != api.OK {
		return c
	}
	d.settle(len(d.turns))
	return d.done()
}
