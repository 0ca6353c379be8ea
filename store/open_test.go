package store_test

import (
	"errors"
	"math"
	"regexp"
	"strings"
	"testing"

	"modality/api"
	"modality/disk"
	"modality/journal"
	"modality/store"
)

func openRefused(t *testing.T, what string, d *disk.Disk, at int, reason api.Errno) {
	t.Helper()
	s, err := store.Open(d, 10)
	if s != nil {
		t.Fatalf("%s: a store beside %v", what, err)
	}
	refused(t, what, err, at, reason)
}

// TestOpenCompact: P12.8: how many records, ahead of the disk.
func TestOpenCompact(t *testing.T) {
	for _, n := range []int{0, -1, 1001, math.MinInt, math.MaxInt} {
		d := newDisk(t, 10)
		for _, d := range []*disk.Disk{d, nil, {}} {
			s, err := store.Open(d, n)
			if s != nil || !is(err, api.ErrStoreCompact, 0) {
				t.Errorf("P12.8: compact %d: %v", n, err)
			}
		}
		if len(d.Image().Nodes) != 0 {
			t.Errorf("P12.8: compact %d: the disk was written on", n)
		}
	}
	for _, n := range []int{1, 2, 1000} {
		s := opens(t, newDisk(t, 10), n)
		stateIs(t, "P12.8", s, api.State{})
	}
}

// TestOpenJournal: P12.8: what the journal refuses is behind the fault, as it came.
func TestOpenJournal(t *testing.T) {
	off := newDisk(t, 10)
	off.Fuse(0)
	lost := newDisk(t, 10)
	for _, e := range []api.Errno{lost.Create("slot.a"), lost.Append("slot.a", make([]byte, 30)), lost.SyncDir()} {
		if e != api.OK {
			t.Fatal(e)
		}
	}
	for name, d := range map[string]*disk.Disk{"nil": nil, "plain": {}, "off": off, "lost": lost, "fused": fused(t, 3), "full": newDisk(t, 1)} {
		var img api.DiskImage
		if d != nil {
			img = d.Image()
		}
		s, err := store.Open(d, 1)
		var same *disk.Disk
		if name != "nil" && name != "plain" {
			same = loadDisk(t, img)
		}
		_, _, _, below := journal.Open(same)
		f, ok := err.(*api.Fault)
		if s != nil || !ok || f.Layer != "store" || f.At != 1 {
			t.Fatalf("P12.8: %s: %v, %v", name, s, err)
		}
		g, ok := f.Err.(*api.Fault)
		if !ok || *g != *below.(*api.Fault) {
			t.Errorf("P12.8: %s: %v is not behind %v", name, below, err)
		}
		if !errors.Is(err, g.Err) {
			t.Errorf("P12.8: %s: %v", name, err)
		}
	}
}

func fused(t *testing.T, writes int) *disk.Disk {
	d := newDisk(t, 10)
	d.Fuse(writes)
	return d
}

// letters are bodies, each by a letter.
func letters(t *testing.T) map[byte][]byte {
	return map[byte][]byte{
		'b': encoded(t, based("M")), 'c': encoded(t, based("N")), '1': encoded(t, putSteps("M", rowOf("A", 2))), '2': encoded(t, putSteps("M", row("B"))),
		'n': encoded(t, putSteps("N", row("A"))), 'w': encoded(t, putSteps("M", row("A"), row("B"))), 'p': encoded(t, performed(perf("1.1", 2))), 'q': encoded(t, performed(perf("1.2", 1))),
		'v': encoded(t, performed(perf("1.1", 1), moves(2, "A")...)), 'g': encoded(t, gone("M", "A")), 'x': {9}, 'y': byHand(t, gone("M")).bytes, 'e': {},
	}
}

// goodBase are the bases that may be, of these letters: the language has every beginning of its words.
var goodBase = regexp.MustCompile(`^(b1?2?p?q?|cn?p?q?|)$`)

// TestOpenBase: P12.8: all short bases.
func TestOpenBase(t *testing.T) {
	all := letters(t)
	var keys []byte
	for c := range all {
		keys = append(keys, c)
	}
	tryBase(t, all, keys, "")
}

// tryBase holds a base against the language, and goes on with longer ones.
func tryBase(t *testing.T, all map[byte][]byte, keys []byte, word string) {
	t.Helper()
	var base [][]byte
	for i := range word {
		base = append(base, all[word[i]])
	}
	d := slotDisk(t, 1, base, nil)
	good := len(word)
	for !goodBase.MatchString(word[:good]) {
		good--
	}
	if good == len(word) {
		stateIs(t, "P12.8: base "+word, opens(t, d, 1), stateOf(word))
	} else {
		reason := api.ErrStoreReplay
		if strings.ContainsRune("xye", rune(word[good])) {
			reason = api.ErrStoreForm
		}
		openRefused(t, "P12.8: base "+word, d, 2+good, reason)
	}
	if len(word) > 4 || good < len(word) && len(word) > 1 {
		return
	}
	for _, c := range keys {
		tryBase(t, all, keys, word+string(c))
	}
}

// stateOf is what a good base leads to.
func stateOf(word string) api.State {
	var st api.State
	for _, c := range word {
		switch c {
		case 'b':
			st.Control = "M"
		case 'c':
			st.Control = "N"
		case '1':
			st.Steps = append(st.Steps, rowOf("A", 2))
		case '2':
			st.Steps = append(st.Steps, row("B"))
		case 'n':
			st.Steps = append(st.Steps, row("A"))
		case 'p':
			st.Perfs = append(st.Perfs, perf("1.1", 2))
		case 'q':
			st.Perfs = append(st.Perfs, perf("1.2", 1))
		}
	}
	return st
}

// TestOpenBaseSteps: P12.8: a base's rows rise, each kind by itself.
func TestOpenBaseSteps(t *testing.T) {
	for name, c := range map[string]struct {
		list []api.Mutation
		at   int
	}{
		"rising":              {[]api.Mutation{based("M"), putSteps("M", row("A")), putSteps("M", row("Z")), performed(perf("1.1", 1)), performed(perf("1.2", 1))}, taken},
		"one key":             {[]api.Mutation{based("M"), putSteps("M", row("2.5")), performed(perf("1.1", 1))}, taken},
		"steps fall":          {[]api.Mutation{based("M"), putSteps("M", row("A")), putSteps("M", row("C")), putSteps("M", row("B"))}, 3},
		"a step twice":        {[]api.Mutation{based("M"), putSteps("M", row("A")), putSteps("M", row("A"))}, 2},
		"performed fall":      {[]api.Mutation{based("M"), performed(perf("1.2", 1)), performed(perf("1.10", 1))}, 2},
		"performed twice":     {[]api.Mutation{based("M"), performed(perf("1.2", 1)), performed(perf("1.2", 2))}, 2},
		"step at the end":     {[]api.Mutation{based("M"), performed(perf("1.2", 1)), putSteps("M", row("A"))}, 2},
		"another control":     {[]api.Mutation{based("M"), putSteps("N", row("A"))}, 1},
		"no control":          {[]api.Mutation{based(""), putSteps("", row("A"))}, taken},
		"control too late":    {[]api.Mutation{based(""), putSteps("M", row("A"))}, 1},
		"two bases":           {[]api.Mutation{based("M"), based("M")}, 1},
		"base at the end":     {[]api.Mutation{based("M"), putSteps("M", row("A")), based("M")}, 2},
		"no base":             {[]api.Mutation{putSteps("M", row("A"))}, 0},
		"no base, no control": {[]api.Mutation{putSteps("", row("A"))}, 0},
		"performed alone":     {[]api.Mutation{performed(perf("1.2", 1))}, 0},
		"gone":                {[]api.Mutation{based("M"), putSteps("M", row("A")), gone("N", "A")}, 2},
		"two in one":          {[]api.Mutation{based("M"), putSteps("M", row("A"), row("B"))}, 1},
		"moves":               {[]api.Mutation{based("M"), putSteps("M", row("A")), performed(perf("1.2", 1), moves(2, "A")...)}, 2},
		"all the rows":        {fullBase(256, 256), taken},
		"one step more":       {fullBase(257, 0), 257},
		"one performed too":   {fullBase(3, 257), 1 + 3 + 256},
	} {
		var base [][]byte
		for _, m := range c.list {
			base = append(base, encoded(t, m))
		}
		d := slotDisk(t, 7, base, nil)
		if c.at != taken {
			openRefused(t, "P12.8: "+name, d, 2+c.at, api.ErrStoreReplay)
			continue
		}
		again, err := store.Base(opens(t, d, 1).State())
		if err != nil || !same(again, c.list) {
			t.Errorf("P12.8: %s: %v, %s", name, err, shown(again))
		}
	}
}

func fullBase(steps, performedSteps int) []api.Mutation {
	list := []api.Mutation{based("M")}
	for _, id := range ids(steps) {
		list = append(list, putSteps("M", row(id)))
	}
	for _, p := range perfs(performedSteps) {
		list = append(list, performed(p))
	}
	return list
}

// TestOpenRecords: P12.8: the records are those that Apply takes, one behind the other; the first that is not is told, counted with the base.
func TestOpenRecords(t *testing.T) {
	from := api.State{Control: "M", Steps: []api.Step{row("A"), rowOf("B", 2)}, Perfs: []api.Perf{perf("1.1", 1)}}
	list, _ := store.Base(from)
	var base [][]byte
	for _, m := range list {
		base = append(base, encoded(t, m))
	}
	muts := smallMutations()
	for i, first := range muts {
		for k := i % 7; k < len(muts); k += 7 {
			d := slotDisk(t, 3, base, [][]byte{encoded(t, first), encoded(t, muts[k])})
			at, want := 0, from
			for n, m := range []api.Mutation{first, muts[k]} {
				st, flaw := modelApply(want, m)
				if flaw != taken {
					at = 2 + len(base) + n
					break
				}
				want = st
			}
			if at != 0 {
				openRefused(t, "P12.8: "+shown(first), d, at, api.ErrStoreReplay)
				continue
			}
			stateIs(t, "P12.8: "+shown(first), opens(t, d, 1), want)
		}
	}
}

// TestOpenRecordForm: P12.8: a record that can't be read, on a disk with a base and without one.
func TestOpenRecordForm(t *testing.T) {
	good := encoded(t, putSteps("N", row("C")))
	for _, base := range [][][]byte{nil, {encoded(t, based("M"))}, {encoded(t, based("M")), encoded(t, performed(perf("1.1", 1)))}} {
		for _, wrong := range [][]byte{nil, {9}, good[:len(good)-1], append([]byte(nil), append(good, 0)...), byHand(t, gone("M")).bytes} {
			openRefused(t, "P12.8: the first record", slotDisk(t, 1, base, [][]byte{wrong, good}), 2+len(base), api.ErrStoreForm)
			openRefused(t, "P12.8: the second record", slotDisk(t, 1, base, [][]byte{good, wrong}), 3+len(base), api.ErrStoreForm)
			openRefused(t, "P12.8: one that does not fit comes first", slotDisk(t, 1, base, [][]byte{good, good, wrong}), 3+len(base), api.ErrStoreReplay)
		}
		openRefused(t, "P12.8: a base as a record", slotDisk(t, 1, base, [][]byte{encoded(t, based("Z"))}), 2+len(base), api.ErrStoreReplay)
	}
}

// TestOpenNoBase: P12.8: a base without bodies is the zero state, and records lead on from there.
func TestOpenNoBase(t *testing.T) {
	stateIs(t, "P12.8", opens(t, slotDisk(t, 1, nil, nil), 1), api.State{})
	d := slotDisk(t, 1, nil, [][]byte{encoded(t, putSteps("M", row("A"))), encoded(t, performed(perf("1.1", 1), moves(2, "A")...))})
	stateIs(t, "P12.8", opens(t, d, 1), api.State{Control: "M", Steps: []api.Step{rowOf("A", 2)}, Perfs: []api.Perf{perf("1.1", 1)}})
}
