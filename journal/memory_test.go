package journal_test

import (
	"bytes"
	"testing"

	"modality/api"
	"modality/journal"
)

// DOC.md, 'Memory': what is handed in is neither changed nor kept, what is handed out is new.

// smear writes over a byte string, spare room included.
func smear(list ...[]byte) {
	for _, b := range list {
		b = b[:cap(b)]
		for i := range b {
			b[i] = '#'
		}
	}
}

// roomy gives the bytes with spare room behind them, filled with something.
func roomy(b []byte) []byte {
	out := append(bytes.Clone(b), bytes.Repeat([]byte{'.'}, 40)...)
	return out[:len(b)]
}

func spareKept(t *testing.T, what string, list ...[]byte) {
	t.Helper()
	for _, b := range list {
		if spare := b[len(b):cap(b)]; !bytes.HasPrefix(spare, bytes.Repeat([]byte{'.'}, 40)) {
			t.Fatalf("%s writes into spare room: %q", what, spare)
		}
	}
}

func TestFormsKeepNothing(t *testing.T) {
	body := roomy([]byte("body"))
	f, _ := journal.Frame(1, body)
	g, _ := journal.Frame(1, body)
	h, _ := journal.Head(2, [][]byte{body, body})
	if journal.Sum(body) != journal.Sum([]byte("body")) {
		t.Error("Sum")
	}
	spareKept(t, "a form", body)
	smear(body)
	if !bytes.Equal(f, frame(1, []byte("body"))) || !bytes.Equal(h, slotOf(2, bodies("body", "body"), nil)) {
		t.Error("a form keeps its body")
	}
	smear(f)
	if !bytes.Equal(g, frame(1, []byte("body"))) {
		t.Error("two frames share memory")
	}
}

// apart: each body, smeared with its spare room, leaves the others as they are.
func apart(t *testing.T, what string, lists ...[][]byte) {
	t.Helper()
	var all [][]byte
	for _, l := range lists {
		for _, b := range l[:cap(l)] {
			if b != nil {
				all = append(all, b)
			}
		}
	}
	for i, b := range all {
		smear(b)
		for _, c := range all[i+1:] {
			if bytes.ContainsRune(c, '#') {
				t.Fatalf("%s: two bodies share memory", what)
			}
		}
	}
}

func TestScanAnswersNewMemory(t *testing.T) {
	data := roomy(append(slotOf(2, bodies("aa", "bb", ""), bodies("cc", "dd", "")), 1))
	kept := bytes.Clone(data)
	first, _ := journal.Scan(data)
	second, _ := journal.Scan(data)
	spareKept(t, "Scan", data)
	apart(t, "Scan", first.Base, first.Records, second.Base, second.Records)
	if !bytes.Equal(data, kept) {
		t.Fatal("an answer shares memory with its argument")
	}
	third, _ := journal.Scan(data)
	smear(data)
	same(t, "base", third.Base, bodies("aa", "bb", ""))
	same(t, "records", third.Records, bodies("cc", "dd", ""))
	third.Base = append(third.Base[:0], make([][]byte, cap(third.Base))...)
	same(t, "records", third.Records, bodies("cc", "dd", ""))
}

func TestOpenAnswersNewMemory(t *testing.T) {
	d := newDisk(t, 20, 4)
	put(t, d, "slot.a", slotOf(2, bodies("aa", "bb"), bodies("cc")))
	before := d.Image()
	j, b, r, err := journal.Open(d)
	if err != nil {
		t.Fatal(err)
	}
	apart(t, "Open", b, r)
	clear(b)
	clear(r)
	sameImage(t, "the disk", d.Image(), before)
	stateIs(t, j, api.JournalState{Gen: 2, Base: 2, Records: 1, Size: 24 + 19*3, Slot: "slot.a"})
	opens(t, d, bodies("aa", "bb"), bodies("cc"))
}

func TestJournalKeepsNothing(t *testing.T) {
	d := newDisk(t, 20, 4)
	j := opens(t, d, nil, nil)
	x, y, z := roomy([]byte("x")), roomy([]byte("y")), roomy([]byte("z"))
	base := append(make([][]byte, 0, 9), x, y)
	if err := j.Compact(base); err != nil {
		t.Fatal(err)
	}
	if err := j.Commit(z); err != nil {
		t.Fatal(err)
	}
	spareKept(t, "the journal", x, y, z)
	if string(x) != "x" || string(y) != "y" || string(z) != "z" || base[:3][2] != nil {
		t.Fatal("the journal changes what it is given")
	}
	smear(x, y, z)
	clear(base)
	opens(t, d, bodies("x", "y"), bodies("z"))
}

// A fault is a new one each time.
func TestFaultsAreNew(t *testing.T) {
	j, d := started(t, "slot.a")
	d.Fuse(0)
	for _, call := range []func() error{
		func() error { _, err := journal.Head(0, nil); return err },
		func() error { _, err := journal.Scan(nil); return err },
		func() error { _, _, _, err := journal.Open(nil); return err },
		func() error { return j.Commit(nil) },
		func() error { return j.Compact(nil) },
	} {
		call() // the first one breaks the journal
		first, second := call().(*api.Fault), call().(*api.Fault)
		if first == second || *first != *second {
			t.Fatalf("%v, %v", first, second)
		}
	}
}
