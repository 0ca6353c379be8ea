package engine

import (
	"strconv"
	"strings"

	"modality/api"
	"modality/dict"
)

// The words of a line that tell no value of their own.
const (
	openWord  = "{" // a data set's lines follow
	closeWord = "}" // they end
	dirWord   = "dir"
)

// entry is what a line says: the server, a caller, a scanner or a happening.
type entry struct {
	config  api.Config // without callers
	disk    api.DiskConfig
	caller  string
	scanner api.ScriptScanner
	hap     api.Hap
}

// column is a word of a line, or all that are left of it: which part of an entry it says.
type column struct {
	many  bool                      // any number of words
	read  func(*entry, []word) bool // false: they say no such part
	take  func(*entry) bool         // takes the part out of the entry; false: no words say it
	write func(*page, *entry)
}

// single is a column of one word: at is where its part lies.
func single[T any](m manner[T], at func(*entry) *T) column {
	return column{
		read: func(e *entry, words []word) bool {
			v, ok := m.read(words[0])
			*at(e) = v
			return ok
		},
		take: func(e *entry) bool {
			var none T
			v := *at(e)
			*at(e) = none
			return m.said(v)
		},
		write: func(p *page, e *entry) { p.put(" ", m.write(*at(e))) },
	}
}

func numberAt(at func(*entry) *int) column { return single(numbers[int](maxNumber), at) }

func textAt(at func(*entry) *string) column { return single(texts(), at) }

// dataSet is the word that opens a data set; the reader and the page see to its lines.
func dataSet() column {
	return column{
		read: func(_ *entry, words []word) bool { return words[0].isPlain(openWord) },
		take: func(e *entry) bool {
			nodes := e.hap.Do.Nodes
			e.hap.Do.Nodes = nil
			return dict.Formed(nodes) == nil
		},
		write: func(p *page, _ *entry) { p.put(" ", openWord) },
	}
}

// tags are the attributes that are asked for.
func tags() column {
	return column{
		many: true,
		read: readTags,
		take: func(e *entry) bool {
			e.hap.Do.Attrs = nil
			return true
		},
		write: func(p *page, e *entry) {
			for _, t := range e.hap.Do.Attrs {
				p.put(" ", dict.PrintTag(t))
			}
		},
	}
}

func readTags(e *entry, words []word) bool {
	for _, w := range words {
		t, err := dict.ParseTag(w.text)
		if err != nil || w.quoted {
			return false
		}
		e.hap.Do.Attrs = append(e.hap.Do.Attrs, t)
	}
	return true
}

// keeps are what a power cut leaves.
func keeps() column {
	return column{many: true, read: readKeeps, take: takeKeeps, write: writeKeeps}
}

func readKeeps(e *entry, words []word) bool {
	k := &e.hap.Act.Keeps
	hasDir := false
	for _, w := range words {
		of, count, _ := strings.Cut(w.text, ":")
		units, ok := numberOf(count)
		id, isFile := numberOf(of)
		isDir := of == dirWord && !hasDir
		switch {
		case !ok || w.quoted:
			return false
		case isDir:
			k.Dir, hasDir = int(units), true
		case isFile:
			k.Files = append(k.Files, api.DiskKeep{Id: uint64(id), Units: int(units)})
		default:
			return false
		}
	}
	return true
}

func takeKeeps(e *entry) bool {
	k := e.hap.Act.Keeps
	e.hap.Act.Keeps = api.PowerCut{}
	for _, f := range k.Files {
		if f.Id > maxNumber || !within(int64(f.Units), maxNumber) {
			return false
		}
	}
	return within(int64(k.Dir), maxNumber)
}

func writeKeeps(p *page, e *entry) {
	k := e.hap.Act.Keeps
	for _, f := range k.Files {
		p.put(" ", strconv.FormatUint(f.Id, 10), ":", strconv.Itoa(f.Units))
	}
	if k.Dir != 0 {
		p.put(" ", dirWord, ":", strconv.Itoa(k.Dir))
	}
}
