package disk_test

import (
	"sort"

	"modality/api"
)

// model is the document's disk, told by its image alone: every question is answered by making all changes and turns anew.
type model struct {
	img api.DiskImage
}

func newModel(c api.DiskConfig) *model {
	return &model{api.DiskImage{Config: c, Next: 1, Left: -1}}
}

// dir is the directory behind the first turns.
func (m *model) dir(turns int) map[string]uint64 {
	dir := map[string]uint64{}
	for _, l := range m.img.Dir {
		dir[l.Name] = l.Id
	}
	for _, t := range m.img.Turns[:turns] {
		switch t.Kind {
		case api.TurnLink:
			dir[t.Name] = t.Id
		case api.TurnUnlink:
			delete(dir, t.Name)
		case api.TurnMove:
			id := dir[t.Name]
			delete(dir, t.Name)
			dir[t.To] = id
		}
	}
	return dir
}

func (m *model) now() map[string]uint64 {
	return m.dir(len(m.img.Turns))
}

func (m *model) node(id uint64) *api.DiskNode {
	for i := range m.img.Nodes {
		if m.img.Nodes[i].Id == id {
			return &m.img.Nodes[i]
		}
	}
	return nil
}

// states are all texts that a file may have behind a cut, by units.
func states(n *api.DiskNode) []string {
	text := string(n.Held)
	all := []string{text}
	for _, c := range n.Changes {
		if c.Cut {
			text = text[:c.Len]
			all = append(all, text)
			continue
		}
		for i := range c.Data {
			all = append(all, text+string(c.Data[:i+1]))
		}
		text += string(c.Data)
	}
	return all
}

// length is the file's; peak is reckoned over every unit.
func length(n *api.DiskNode) (size, peak int) {
	size = len(n.Held)
	peak = size
	for _, c := range n.Changes {
		if c.Cut {
			size = c.Len
			continue
		}
		for range c.Data {
			size++
			if size > peak {
				peak = size
			}
		}
	}
	return size, peak
}

func (m *model) used() int {
	sum := 0
	for i := range m.img.Nodes {
		_, peak := length(&m.img.Nodes[i])
		blocks := 1
		for blocks*512 < peak {
			blocks++
		}
		sum += blocks
	}
	return sum
}

func goodName(name string) bool {
	for _, r := range name {
		switch {
		case 'a' <= r && r <= 'z', '0' <= r && r <= '9', r == '.', r == '-':
		default:
			return false
		}
	}
	return len(name) >= 1 && len(name) <= 16
}

func (m *model) first(names ...string) api.Errno {
	if m.img.Left == 0 {
		return api.ErrDiskOff
	}
	for _, name := range names {
		if !goodName(name) {
			return api.ErrDiskName
		}
	}
	return api.OK
}

func (m *model) find(name string) (*api.DiskNode, api.Errno) {
	if c := m.first(name); c != api.OK {
		return nil, c
	}
	id, there := m.now()[name]
	if !there {
		return nil, api.ErrDiskNone
	}
	return m.node(id), api.OK
}

func (m *model) done() api.Errno {
	if m.img.Left > 0 {
		m.img.Left--
	}
	return api.OK
}

func (m *model) create(name string) api.Errno {
	if c := m.first(name); c != api.OK {
		return c
	}
	dir := m.now()
	if _, there := dir[name]; there {
		return api.ErrDiskTaken
	}
	if len(dir) == m.img.Config.Names {
		return api.ErrDiskNames
	}
	if m.img.Next > api.MaxNodeNum {
		return api.ErrDiskSpent
	}
	if m.used()+1 > m.img.Config.Blocks {
		return api.ErrDiskFull
	}
	m.img.Nodes = append(m.img.Nodes, api.DiskNode{Id: m.img.Next})
	m.img.Turns = append(m.img.Turns, api.DiskTurn{Kind: api.TurnLink, Name: name, Id: m.img.Next})
	m.img.Next++
	return m.done()
}

func (m *model) add(name string, data []byte) api.Errno {
	n, c := m.find(name)
	if c != api.OK {
		return c
	}
	if len(data) == 0 {
		return m.done()
	}
	before, old := m.used(), n.Changes
	n.Changes = append(append([]api.DiskChange(nil), old...), api.DiskChange{Data: append([]byte(nil), data...)})
	if after := m.used(); after > before && after > m.img.Config.Blocks {
		n.Changes = old
		return api.ErrDiskFull
	}
	return m.done()
}

func (m *model) truncate(name string, to int) api.Errno {
	n, c := m.find(name)
	if c != api.OK {
		return c
	}
	size, _ := length(n)
	if to < 0 || to > size {
		return api.ErrDiskRange
	}
	if to != size {
		n.Changes = append(n.Changes, api.DiskChange{Cut: true, Len: to})
	}
	return m.done()
}

// hold leaves of a file what it has behind so many units.
func hold(n *api.DiskNode, units int) {
	all := states(n)
	if units < 0 {
		units = 0
	}
	if units >= len(all) {
		units = len(all) - 1
	}
	n.Held = []byte(all[units])
	if all[units] == "" {
		n.Held = nil
	}
	n.Changes = nil
}

func (m *model) sync(name string) api.Errno {
	n, c := m.find(name)
	if c != api.OK {
		return c
	}
	hold(n, len(states(n)))
	return m.done()
}

func (m *model) rename(name, to string) api.Errno {
	if c := m.first(name, to); c != api.OK {
		return c
	}
	if _, there := m.now()[name]; !there {
		return api.ErrDiskNone
	}
	if name == to {
		return api.ErrDiskSame
	}
	m.img.Turns = append(m.img.Turns, api.DiskTurn{Kind: api.TurnMove, Name: name, To: to})
	return m.done()
}

func (m *model) remove(name string) api.Errno {
	if _, c := m.find(name); c != api.OK {
		return c
	}
	m.img.Turns = append(m.img.Turns, api.DiskTurn{Kind: api.TurnUnlink, Name: name})
	return m.done()
}

// holdDir leaves the directory behind so many turns, and the files that have a name in it.
func (m *model) holdDir(turns int) {
	dir := m.dir(turns)
	m.img.Turns, m.img.Dir = nil, nil
	for name, id := range dir {
		m.img.Dir = append(m.img.Dir, api.DiskLink{Name: name, Id: id})
	}
	sort.Slice(m.img.Dir, func(i, j int) bool { return m.img.Dir[i].Name < m.img.Dir[j].Name })
	var nodes []api.DiskNode
	for _, n := range m.img.Nodes {
		for _, l := range m.img.Dir {
			if l.Id == n.Id {
				nodes = append(nodes, n)
			}
		}
	}
	m.img.Nodes = nodes
}

func (m *model) syncDir() api.Errno {
	if c := m.first(); c != api.OK {
		return c
	}
	m.holdDir(len(m.img.Turns))
	return m.done()
}

func (m *model) quota(blocks int) {
	switch {
	case blocks < 0:
		m.img.Config.Blocks = 0
	case blocks > 1<<16:
		m.img.Config.Blocks = 1 << 16
	default:
		m.img.Config.Blocks = blocks
	}
}

func (m *model) fuse(writes int) {
	if m.img.Left == 0 {
		return
	}
	m.img.Left = writes
	if writes < 0 {
		m.img.Left = -1
	}
}

func (m *model) cut(c api.PowerCut) {
	for i := range m.img.Nodes {
		units := 0
		for _, k := range c.Files {
			if k.Id == m.img.Nodes[i].Id {
				units = k.Units
				break
			}
		}
		hold(&m.img.Nodes[i], units)
	}
	turns := c.Dir
	if turns < 0 {
		turns = 0
	}
	if turns > len(m.img.Turns) {
		turns = len(m.img.Turns)
	}
	m.holdDir(turns)
	m.img.Left = -1
}
