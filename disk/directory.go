package disk

import (
	"cmp"
	"iter"
	"maps"
	"slices"

	"modality/api"
)

// directory has names, each with a file; no two have the same one.
type directory map[string]*file

// turn is a change of a directory, of a kind of api.Turn..; file is nil but for a link.
type turn struct {
	kind int
	name string
	to   string
	file *file
}

// apply makes a turn that is possible.
func (x directory) apply(t turn) {
	switch t.kind {
	case api.TurnLink:
		x[t.name] = t.file
	case api.TurnUnlink:
		delete(x, t.name)
	case api.TurnMove:
		x[t.to] = x[t.name]
		delete(x, t.name)
	}
}

// become takes over what another directory has.
func (x directory) become(y directory) {
	clear(x)
	maps.Copy(x, y)
}

// rising gives what names have to range over, by name: all of a directory that is told goes through here, since a map has no order.
func rising[V any](x map[string]V) iter.Seq2[string, V] {
	return func(yield func(string, V) bool) {
		for _, name := range slices.Sorted(maps.Keys(x)) {
			if !yield(name, x[name]) {
				return
			}
		}
	}
}

// files gives the files that have a name, rising by number.
func (x directory) files() []*file {
	return slices.SortedFunc(maps.Values(x), func(a, b *file) int {
		return cmp.Compare(a.id, b.id)
	})
}

func (t turn) plain() api.DiskTurn {
	p := api.DiskTurn{Kind: t.kind, Name: t.name, To: t.to}
	if t.file != nil {
		p.Id = t.file.id
	}
	return p
}

// isName tells whether a text may be a file's name.
func isName(s string) bool {
	if len(s) < 1 || len(s) > api.MaxName {
		return false
	}
	for i := range len(s) {
		if !isNameByte(s[i]) {
			return false
		}
	}
	return true
}

func isNameByte(b byte) bool {
	return b >= 'a' && b <= 'z' || b >= '0' && b <= '9' || b == '.' || b == '-'
}
