package engine

import (
	"strings"

	"modality/api"
	"modality/dump"
)

// remark begins a line that says nothing.
const remark = '#'

// reader makes a script of a text, line by line.
type reader struct {
	table  table
	rest   string // what is not cut into lines yet
	number int    // of the last line that was cut
	script api.Script
	server int // the number of the server's line; 0: there was none yet
	seats  seats
	begun  bool // a happening's line was there
}

// read reads a whole text.
func read(text string) (*reader, error) {
	if len(text) > api.MaxDump {
		return nil, refusal(0, api.ErrEngineLong)
	}
	r := &reader{table: rows(), rest: text}
	for r.rest != "" {
		line := r.next()
		at := r.number
		if err := r.take(line); err != nil {
			return nil, refusal(at, err)
		}
	}
	if r.server == 0 {
		return nil, refusal(max(r.number, 1), api.ErrEngineLine)
	}
	return r, nil
}

// next cuts the next line.
func (r *reader) next() string {
	line, rest, _ := strings.Cut(r.rest, "\n")
	r.rest = rest
	r.number++
	return line
}

// take takes what a line says into the script, with the lines behind it that belong to it.
func (r *reader) take(line string) error {
	if saysNothing(line) {
		return nil
	}
	words, ok := cutWords(line)
	if !ok {
		return api.ErrEngineWord
	}
	w, ok := r.table.byWord(words[0])
	e := entry{hap: w.hap}
	if !ok || !r.isTimeFor(w) || !w.read(&e, words[1:]) {
		return api.ErrEngineLine
	}
	return w.makes(r, e)
}

// saysNothing tells whether a line is let go.
func saysNothing(line string) bool {
	rest := skipBlanks(line)
	return rest == "" || rest[0] == remark
}

// isTimeFor tells whether a line is the server's just where that must be.
func (r *reader) isTimeFor(w row) bool { return (w.word == serverWord) == (r.server == 0) }

func (r *reader) addServer(e entry) error {
	r.script.Config, r.script.Disk = e.config, e.disk
	r.server = r.number
	return nil
}

func (r *reader) addCaller(e entry) error {
	if r.begun {
		return api.ErrEngineScanner
	}
	r.script.Config.Callers = append(r.script.Config.Callers, e.caller)
	return nil
}

func (r *reader) addScanner(e entry) error {
	if r.begun || !r.seats.isFree(e.scanner.Line) {
		return api.ErrEngineScanner
	}
	r.seats[e.scanner.Line] = true
	r.script.Scanners = append(r.script.Scanners, e.scanner)
	return nil
}

func (r *reader) addHap(e entry) error {
	r.begun = true
	h := e.hap
	h.Line = r.number
	if !r.seats.fit(h) {
		return api.ErrEngineScanner
	}
	if len(r.script.Haps) == api.MaxActs {
		return api.ErrEngineMany
	}
	if hasDataSet(h) {
		nodes, err := r.dataSet()
		if err != nil {
			return err
		}
		h.Do.Nodes = nodes
	}
	r.script.Haps = append(r.script.Haps, h)
	return nil
}

// dataSet reads the data set on the lines up to the one that closes it.
func (r *reader) dataSet() ([]api.Node, error) {
	begin := r.rest
	for r.rest != "" {
		size := len(begin) - len(r.rest)
		if isClose(r.next()) {
			return dump.Parse(begin[:size])
		}
	}
	return nil, api.ErrEngineDump
}

// isClose tells whether a line closes a data set: a brace of its own stands behind a blank.
func isClose(line string) bool {
	rest, ok := strings.CutPrefix(line, closeWord)
	return ok && skipBlanks(rest) == ""
}
