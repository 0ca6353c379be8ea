package engine

import "modality/api"

// serverWord begins the line that stands ahead of all others.
const serverWord = "server"

// row is a kind of line: its first word, what its other words are, and what becomes of it.
type row struct {
	word  string
	words []column
	hap   api.Hap                    // of a happening: its kinds
	makes func(*reader, entry) error // makes a part of the script of what the words say
}

// table is kinds of lines.
type table []row

// rows gives the table of lines.
func rows() table {
	return append(table{serverRow(), callerRow(), scannerRow()}, happenings()...)
}

func serverRow() row {
	return row{word: serverWord, makes: (*reader).addServer, words: []column{
		textAt(func(e *entry) *string { return &e.config.Title }),
		numberAt(func(e *entry) *int { return &e.config.Lines }),
		numberAt(func(e *entry) *int { return &e.config.Artim }),
		numberAt(func(e *entry) *int { return &e.config.Compact }),
		numberAt(func(e *entry) *int { return &e.disk.Blocks }),
		numberAt(func(e *entry) *int { return &e.disk.Names }),
	}}
}

func callerRow() row {
	return row{word: "caller", makes: (*reader).addCaller, words: []column{
		textAt(func(e *entry) *string { return &e.caller }),
	}}
}

func scannerRow() row {
	return row{word: "scanner", makes: (*reader).addScanner, words: []column{
		numberAt(func(e *entry) *int { return &e.scanner.Line }),
		textAt(func(e *entry) *string { return &e.scanner.Config.Title }),
		textAt(func(e *entry) *string { return &e.scanner.Config.Called }),
		single(numbers[uint32](maxNumber), func(e *entry) *uint32 { return &e.scanner.Config.Most }),
		numberAt(func(e *entry) *int { return &e.scanner.Config.Artim }),
		single(someOf(syntaxNames()), func(e *entry) *[]api.Syntax { return &e.scanner.Config.Syntaxes }),
		single(someOf(classNames()), func(e *entry) *[]string { return &e.scanner.Config.Classes }),
	}}
}

// happenings gives the lines of which each is a happening.
func happenings() table {
	scanner := numberAt(func(e *entry) *int { return &e.hap.At })
	id := single(numbers[uint16](maxId), func(e *entry) *uint16 { return &e.hap.Do.Id })
	uid := textAt(func(e *entry) *string { return &e.hap.Do.UID })
	charset := textAt(func(e *entry) *string { return &e.hap.Do.Charset })
	line := numberAt(func(e *entry) *int { return &e.hap.Act.Line })
	data := single(pairs(), func(e *entry) *[]byte { return &e.hap.Act.Data })
	count := numberAt(func(e *entry) *int { return &e.hap.Act.Count })
	order := textAt(func(e *entry) *string { return &e.hap.Text })
	return table{
		doing("connect", api.DoConnect, scanner),
		doing("release", api.DoRelease, scanner),
		doing("abort", api.DoAbort, scanner),
		doing("echo", api.DoEcho, scanner, id),
		doing("cancel", api.DoCancel, scanner, id),
		doing("find", api.DoFind, scanner, id, charset, dataSet()),
		doing("create", api.DoCreate, scanner, id, uid, charset, dataSet()),
		doing("set", api.DoSet, scanner, id, uid, charset, dataSet()),
		doing("get", api.DoGet, scanner, id, uid, tags()),
		acting("link", api.ALink, line),
		acting("data", api.AData, line, data),
		acting("drop", api.ADrop, line),
		happening("order", api.Hap{Kind: api.HapOrder}, order),
		acting("feed", api.AFeed, data),
		acting("feedlink", api.AFeedLink),
		acting("turn", api.ATurn, count),
		acting("tick", api.ATick, count),
		acting("room", api.ARoom, count),
		acting("fuse", api.AFuse, count, keeps()),
		acting("power", api.APower, keeps()),
		acting("start", api.AStart),
	}
}

// doing is a line that tells a scanner to do something.
func doing(word string, kind int, words ...column) row {
	return happening(word, api.Hap{Kind: api.HapDo, Do: api.ScuDo{Kind: kind}}, words...)
}

// acting is a line of something that happens to the server.
func acting(word string, kind int, words ...column) row {
	return happening(word, api.Hap{Kind: api.HapAct, Act: api.Act{Kind: kind}}, words...)
}

func happening(word string, kinds api.Hap, words ...column) row {
	return row{word: word, hap: kinds, words: words, makes: (*reader).addHap}
}

// byWord is the row of a line's first word.
func (t table) byWord(w word) (row, bool) {
	for _, r := range t {
		if w.isPlain(r.word) {
			return r, true
		}
	}
	return row{}, false
}

// byKind is the row of a happening.
func (t table) byKind(h api.Hap) (row, bool) {
	for _, r := range t {
		if h.Kind != 0 && r.hap.Kind == h.Kind && r.hap.Do.Kind == h.Do.Kind && r.hap.Act.Kind == h.Act.Kind {
			return r, true
		}
	}
	return row{}, false
}

// read reads the words behind a line's first one; false: they are too few or too many, or one of them may not be.
func (r row) read(e *entry, words []word) bool {
	for _, c := range r.words {
		if c.many {
			return c.read(e, words)
		}
		if len(words) == 0 || !c.read(e, words[:1]) {
			return false
		}
		words = words[1:]
	}
	return len(words) == 0
}

// says tells whether a line of this kind says all that is in an entry.
func (r row) says(e entry) bool {
	for _, c := range r.words {
		if !c.take(&e) {
			return false
		}
	}
	return isSpent(e.hap)
}

// isSpent tells whether nothing is left of a happening but its kinds and its line's number.
func isSpent(h api.Hap) bool {
	d, a := h.Do, h.Act
	return h.At == 0 && h.Text == "" &&
		d.Id == 0 && d.UID == "" && len(d.Nodes) == 0 && d.Charset == "" && len(d.Attrs) == 0 && d.Count == 0 &&
		a.Line == 0 && a.Count == 0 && len(a.Data) == 0 && len(a.Keeps.Files) == 0 && a.Keeps.Dir == 0
}

// hasDataSet tells whether a happening's line is followed by a data set's lines.
func hasDataSet(h api.Hap) bool {
	switch h.Do.Kind {
	case api.DoFind, api.DoCreate, api.DoSet:
		return true
	}
	return false
}
