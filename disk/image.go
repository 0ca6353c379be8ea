package disk

import (
	"cmp"
	"slices"

	"modality/api"
)

// Image tells the disk as plain data (P1.2).
func (d *Disk) Image() api.DiskImage {
	if !d.made() {
		return api.DiskImage{}
	}
	img := api.DiskImage{
		Config: api.DiskConfig{Blocks: d.quota, Names: d.most},
		Next:   d.next,
		Left:   d.left,
	}
	for _, f := range d.files {
		img.Nodes = append(img.Nodes, f.node())
	}
	for name, f := range rising(d.held) {
		img.Dir = append(img.Dir, api.DiskLink{Name: name, Id: f.id})
	}
	for _, t := range d.turns {
		img.Turns = append(img.Turns, t.plain())
	}
	return img
}

// numbers is a set of files' numbers.
type numbers map[uint64]struct{}

// Load gives the disk of that image (P1.2).
func Load(img api.DiskImage) (*Disk, error) {
	if err := checkConfig(img.Config, 0); err != nil {
		return nil, err
	}
	if img.Next < 1 || img.Next > api.MaxNodeNum+1 {
		return nil, refusal(2, api.ErrDiskImage)
	}
	d := blank(img.Config)
	d.next = img.Next
	d.left = max(img.Left, endless)
	count := len(img.Nodes)
	if good := d.loadFiles(img.Nodes); good < count {
		return nil, refusal(3+good, api.ErrDiskImage)
	}
	linked := numbers{}
	if !d.loadNames(img.Dir, linked) {
		return nil, refusal(3+count, api.ErrDiskImage)
	}
	if !d.loadTurns(img.Turns, linked) {
		return nil, refusal(4+count, api.ErrDiskImage)
	}
	// Only numbers of files are linked, each once: fewer of them leave a file that never had a name.
	if len(linked) < count {
		return nil, refusal(5+count, api.ErrDiskImage)
	}
	d.used = usedBy(d.files)
	return d, nil
}

// loadFiles takes files up to the first that may not be, and tells how many.
func (d *Disk) loadFiles(nodes []api.DiskNode) int {
	last := uint64(0)
	for i, n := range nodes {
		if n.Id <= last || n.Id >= d.next {
			return i
		}
		f := loadFile(n)
		if f == nil {
			return i
		}
		d.files = append(d.files, f)
		last = n.Id
	}
	return len(nodes)
}

// loadFile gives nil, if a change could not have been made.
func loadFile(n api.DiskNode) *file {
	f := newFile(n.Id, n.Held)
	for _, c := range n.Changes {
		if !f.fits(c) {
			return nil
		}
		f.change(c)
	}
	return f
}

// loadNames takes the held directory, and tells whether it may be.
func (d *Disk) loadNames(dir []api.DiskLink, linked numbers) bool {
	if len(dir) > d.most {
		return false
	}
	last := ""
	for _, l := range dir {
		f := d.numbered(l.Id)
		_, had := linked[l.Id]
		if !isName(l.Name) || l.Name <= last || f == nil || had {
			return false
		}
		d.held[l.Name] = f
		linked[l.Id] = struct{}{}
		last = l.Name
	}
	d.names.become(d.held)
	return true
}

// loadTurns takes the turns, and tells whether each could be made.
func (d *Disk) loadTurns(turns []api.DiskTurn, linked numbers) bool {
	for _, p := range turns {
		if !d.mayTurn(p, linked) {
			return false
		}
		d.turn(turn{kind: p.Kind, name: p.Name, to: p.To, file: d.numbered(p.Id)})
		if p.Kind == api.TurnLink {
			linked[p.Id] = struct{}{}
		}
	}
	return true
}

// mayTurn tells whether a turn can be made on the directory as it is now; linked are the files that have or had a name.
func (d *Disk) mayTurn(p api.DiskTurn, linked numbers) bool {
	there := d.names[p.Name] != nil
	switch p.Kind {
	case api.TurnLink:
		_, had := linked[p.Id]
		return isName(p.Name) && !there && p.To == "" && d.numbered(p.Id) != nil && !had && len(d.names) < d.most
	case api.TurnUnlink:
		return there && p.To == "" && p.Id == 0
	case api.TurnMove:
		return there && isName(p.To) && p.To != p.Name && p.Id == 0
	}
	return false
}

// numbered gives the file of a number, or nil.
func (d *Disk) numbered(id uint64) *file {
	i, found := slices.BinarySearchFunc(d.files, id, func(f *file, id uint64) int {
		return cmp.Compare(f.id, id)
	})
	if !found {
		return nil
	}
	return d.files[i]
}
