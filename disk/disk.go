// Package disk is layer 1: files whose power may go at any moment: see shared/doc/01-disk.md.
package disk

import "modality/api"

// endless stands in left: the power is on for any number of writes.
const endless = -1

// Disk is files, their directory, and what a power cut may take of both.
type Disk struct {
	quota int       // blocks that there are
	most  int       // names that the directory may have
	used  int       // blocks of all files
	next  uint64    // number of the next file
	left  int       // writes that the power lasts for, or endless; 0: it is off
	files []*file   // all of them, rising by number
	names directory // as it is now
	held  directory // as a power cut leaves it that keeps no turn
	turns []turn    // what leads from held to names, oldest first
}

// New gives an empty disk (P1.1).
func New(c api.DiskConfig) (*Disk, error) {
	if err := checkConfig(c, 1); err != nil {
		return nil, err
	}
	return blank(c), nil
}

// checkConfig refuses a configuration; a loaded disk may have fewer blocks than a new one.
func checkConfig(c api.DiskConfig, leastBlocks int) error {
	if c.Blocks < leastBlocks || c.Blocks > api.MaxBlocks {
		return refusal(0, api.ErrDiskConfig)
	}
	if c.Names < 1 || c.Names > api.MaxNames {
		return refusal(1, api.ErrDiskConfig)
	}
	return nil
}

func refusal(at int, reason api.Errno) error {
	return &api.Fault{Layer: "disk", At: at, Err: reason}
}

func blank(c api.DiskConfig) *Disk {
	return &Disk{
		quota: c.Blocks,
		most:  c.Names,
		next:  1,
		left:  endless,
		names: directory{},
		held:  directory{},
	}
}

// made tells whether New or Load gave the disk: both give it a directory.
func (d *Disk) made() bool {
	return d != nil && d.names != nil
}

// Used tells how many blocks are used (P1.3).
func (d *Disk) Used() int {
	if !d.made() {
		return 0
	}
	return d.used
}

// Quota sets how many blocks there are (P1.3).
func (d *Disk) Quota(blocks int) {
	if !d.made() {
		return
	}
	d.quota = min(max(blocks, 0), api.MaxBlocks)
}

// Fuse sets how many writes the power still lasts for (P1.6).
func (d *Disk) Fuse(writes int) {
	if !d.made() || d.left == 0 {
		return
	}
	d.left = max(writes, endless)
}

// Cut cuts the power, and brings it back (P1.7).
func (d *Disk) Cut(c api.PowerCut) {
	if !d.made() {
		return
	}
	units := firstUnits(c.Files)
	for _, f := range d.files {
		f.settle(units[f.id])
	}
	d.settle(c.Dir)
	d.left = endless
}

// firstUnits tells for each number what its first entry says.
func firstUnits(keeps []api.DiskKeep) map[uint64]int {
	units := map[uint64]int{}
	for _, k := range keeps {
		if _, told := units[k.Id]; !told {
			units[k.Id] = k.Units
		}
	}
	return units
}

// settle makes the first turns on the held directory; the others are gone, and with them every file that has no name then.
func (d *Disk) settle(turns int) {
	kept := min(max(turns, 0), len(d.turns))
	for _, t := range d.turns[:kept] {
		d.held.apply(t)
	}
	clear(d.turns)
	d.turns = d.turns[:0]
	d.names.become(d.held)
	d.files = d.names.files()
	d.used = usedBy(d.files)
}

func usedBy(files []*file) int {
	sum := 0
	for _, f := range files {
		sum += f.blocks()
	}
	return sum
}
