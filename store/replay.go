package store

import "modality/api"

// replay gives the state that a journal's bodies lead to. A refusal's place is behind those of Open's own two.
func replay(base, records [][]byte) (*tables, error) {
	rows := newTables()
	line := &baseLine{rows: rows}
	for i, raw := range base {
		if e := rows.take(raw, line.stands); e != api.OK {
			return nil, refusal(2+i, e)
		}
	}
	for i, raw := range records {
		if e := rows.take(raw, rows.fits); e != api.OK {
			return nil, refusal(2+len(base)+i, e)
		}
	}
	return rows, nil
}

// take makes what a journal's body says, if it may stand there.
func (t *tables) take(raw []byte, stands func(body) bool) api.Errno {
	b, err := readBody(raw)
	if err != nil {
		return api.ErrStoreForm
	}
	if !stands(b) {
		return api.ErrStoreReplay
	}
	t.turn(b)
	return api.OK
}

func (t *tables) fits(b body) bool { return t.flaw(b) == noFlaw }

// baseLine goes along a base, and knows what may come next.
type baseLine struct {
	rows  *tables
	begun bool
	last  string // key of the row ahead, of its kind
}

// stands tells whether a body may come next in the base.
func (l *baseLine) stands(b body) bool {
	switch x := b.(type) {
	case baseBody:
		first := !l.begun
		l.begun = true
		return first
	case stepsBody:
		return l.begun && len(l.rows.perfs) == 0 && l.rows.room() > 0 &&
			len(x.steps) == 1 && x.control == l.rows.control && l.follows(x.steps[0].ID, len(l.rows.steps))
	case perfBody:
		return l.begun && len(l.rows.perfs) < api.MaxPerfs &&
			len(x.moves) == 0 && l.follows(x.perf.UID, len(l.rows.perfs))
	}
	return false
}

// follows tells whether a key is above the one ahead, if there is one ahead of its kind.
func (l *baseLine) follows(key string, ahead int) bool {
	above := ahead == 0 || key > l.last
	l.last = key
	return above
}
