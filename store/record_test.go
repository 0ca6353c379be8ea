package store_test

import (
	"bytes"
	"encoding/binary"
	"math/rand/v2"
	"reflect"
	"testing"

	"modality/api"
	"modality/dataset"
	"modality/store"
)

// What follows says the bytes once more, by other means than the program.

var low = binary.LittleEndian

// laid is a record that is written by hand: its bytes, and where each thing begins and ends.
type laid struct {
	bytes  []byte
	things [][2]int
}

func (l *laid) thing(b []byte) {
	l.things = append(l.things, [2]int{len(l.bytes), len(l.bytes) + len(b)})
	l.bytes = append(l.bytes, b...)
}

func (l *laid) one(n int) { l.thing([]byte{byte(n)}) }

func (l *laid) text(s string) { l.thing(append(low.AppendUint16(nil, uint16(len(s))), s...)) }

func (l *laid) step(s api.Step) {
	v := reflect.ValueOf(s)
	for i := range 19 {
		l.text(v.Field(i).String())
	}
	l.one(s.Status)
}

// perf lays a performed step down whose data set has these bytes.
func (l *laid) perf(p api.Perf, data []byte, moves []api.Move) {
	l.text(p.UID)
	l.one(p.State)
	l.thing(append(low.AppendUint32(nil, uint32(len(data))), data...))
	l.thing(low.AppendUint16(nil, uint16(len(moves))))
	for _, m := range moves {
		l.text(m.ID)
		l.one(m.Status)
	}
}

// byHand lays a mutation down, one that may not be too.
func byHand(t *testing.T, m api.Mutation) *laid {
	t.Helper()
	l := &laid{}
	l.one(m.Kind)
	if m.Kind != api.MPerf {
		l.text(m.Control)
	}
	switch m.Kind {
	case api.MStep:
		l.one(len(m.Steps))
		for _, s := range m.Steps {
			l.step(s)
		}
	case api.MGone:
		l.one(len(m.IDs))
		for _, id := range m.IDs {
			l.text(id)
		}
	case api.MPerf:
		data, err := dataset.Encode(m.Perf.Data, api.Implicit)
		if err != nil {
			t.Fatal(err)
		}
		l.perf(m.Perf, data, m.Moves)
	}
	return l
}

// stop is why the second reader ends.
type stop struct {
	at     int
	reason api.Errno
}

// second reads a record; what can't be read is thrown.
type second struct {
	all  []byte
	left []byte
}

func (r *second) here() int { return len(r.all) - len(r.left) }

func (r *second) cut(n uint64, at int) []byte {
	if n > uint64(len(r.left)) {
		panic(stop{at, api.ErrStoreForm})
	}
	b := r.left[:n]
	r.left = r.left[n:]
	return b
}

func (r *second) one() int { return int(r.cut(1, r.here())[0]) }

func (r *second) text() string {
	at := r.here()
	return string(r.cut(uint64(low.Uint16(r.cut(2, at))), at))
}

func (r *second) data() []api.Node {
	at := r.here()
	raw := r.cut(uint64(low.Uint32(r.cut(4, at))), at)
	nodes, err := dataset.Decode(raw, api.Implicit)
	if err != nil {
		panic(stop{at + 4, api.ErrStoreForm})
	}
	if again, err := dataset.Encode(nodes, api.Implicit); err != nil || string(again) != string(raw) {
		panic(stop{at + 4, api.ErrStoreForm})
	}
	return nodes
}

func (r *second) mutation() (m api.Mutation) {
	m.Kind = r.one()
	if m.Kind < 1 || m.Kind > 4 {
		panic(stop{0, api.ErrStoreForm})
	}
	if m.Kind != api.MPerf {
		m.Control = r.text()
	}
	switch m.Kind {
	case api.MStep:
		for n := r.one(); n > 0; n-- {
			var s api.Step
			for i := range 19 {
				set(&s, i, r.text())
			}
			s.Status = r.one()
			m.Steps = append(m.Steps, s)
		}
	case api.MGone:
		for n := r.one(); n > 0; n-- {
			m.IDs = append(m.IDs, r.text())
		}
	case api.MPerf:
		m.Perf.UID = r.text()
		m.Perf.State = r.one()
		m.Perf.Data = r.data()
		for n := low.Uint16(r.cut(2, r.here())); n > 0; n-- {
			id := r.text()
			m.Moves = append(m.Moves, api.Move{ID: id, Status: r.one()})
		}
	}
	if len(r.left) > 0 {
		panic(stop{r.here(), api.ErrStoreForm})
	}
	return m
}

// modelDecode is P12.4 by the second reader.
func modelDecode(b []byte) (m api.Mutation, at int, reason api.Errno) {
	defer func() {
		if s, ok := recover().(stop); ok {
			m, at, reason = api.Mutation{}, s.at, s.reason
		}
	}()
	m = (&second{b, b}).mutation()
	if store.Formed(m) != nil {
		return api.Mutation{}, 0, api.ErrStoreMutation
	}
	return m, 0, api.OK
}

// decodeIs: the program reads as the second reader does, and what it takes is what Encode gives.
func decodeIs(t *testing.T, what string, b []byte) api.Errno {
	t.Helper()
	kept := bytes.Clone(b)
	m, err := store.Decode(b)
	want, at, reason := modelDecode(b)
	if !is(err, reason, at) || !same(m, want) {
		t.Fatalf("P12.4: %s: %v, not %d at %d: %s of % .300x", what, err, reason, at, shown(m), b)
	}
	if !bytes.Equal(b, kept) {
		t.Fatalf("DOC.md, Memory: Decode has changed its bytes")
	}
	if reason != api.OK {
		return reason
	}
	if again, err := store.Encode(m); err != nil || !bytes.Equal(again, b) {
		t.Fatalf("P12.4: %s: Encode gives %v % .300x, not % .300x", what, err, again, b)
	}
	return reason
}

// corpus are mutations of every kind, small ones.
func corpus() []api.Mutation {
	series := append(around(2, node(api.TagModality, api.VRCS, "CT")), node(0x00410010, api.VRLO, "x"), api.Node{Tag: 0x00411001, VR: api.VRSQ, N: 2},
		api.Node{Tag: api.TagItem, VR: api.VRItem, N: 1}, node(0x00080060, api.VRCS, "MR1"), api.Node{Tag: api.TagItem, VR: api.VRItem}, node(0x00411002, api.VRUN, "\x01\x02"))
	deep := perf("1.2.840.3", api.PerfProgress, node(api.TagPatientName, api.VRPN, "Ä^B"))
	deep.Data = append(deep.Data, series...)
	return []api.Mutation{
		whole(api.MStep), whole(api.MGone), whole(api.MPerf), whole(api.MBase), based(""), putSteps("", row("A")), gone("", "A"),
		putSteps("M", rowOf("A", 4), rowOf("B", 3)), performed(deep), performed(perf("0", api.PerfDiscontinued), moves(4, "A", "B", "C")...),
		performed(perf("1.2", api.PerfCompleted, node(api.TagPatientID, api.VRLO, "")), moves(3, "S")...),
	}
}

// great are mutations at their limits.
func great(t *testing.T) []api.Mutation {
	most := full("")
	for field, rule := range fieldRules() {
		switch rule.vr {
		case "SH":
			set(&most, field, long("\U0001f600", 16))
		case "LO":
			set(&most, field, long("\U0001f600", 64))
		case "PN":
			g := long("\U0001f600", 64)
			set(&most, field, g+"="+g+"="+g)
		case "UI":
			set(&most, field, long("1", 64))
		}
	}
	var steps []api.Step
	for _, id := range ids(8) {
		most.ID = id + long("x", 12)
		steps = append(steps, most)
	}
	var keys []string
	for _, id := range ids(256) {
		keys = append(keys, id+long("x", 12))
	}
	p := sized(t, api.MaxRow)
	p.UID = long("1", 64)
	return []api.Mutation{
		putSteps(long("c", 20), steps...), gone(long("c", 20), keys[:8]...), performed(p, moves(2, keys...)...), performed(crowded(4094)), based(long("c", 20)),
	}
}

// TestEncode: P12.3: the bytes, beside a second writer; no record is too long.
func TestEncode(t *testing.T) {
	for _, m := range append(corpus(), great(t)...) {
		b, err := store.Encode(m)
		if want := byHand(t, m).bytes; err != nil || !bytes.Equal(b, want) {
			t.Fatalf("P12.3: %s: %v\n% .300x, not\n% .300x", shown(m), err, b, want)
		}
		if len(b) > api.MaxRecord || len(b) >= 40000+100 {
			t.Errorf("P12.3: a record of %d bytes", len(b))
		}
		back, err := store.Decode(b)
		if err != nil || !same(back, m) {
			t.Fatalf("P12.4: %v: %s, not %s", err, shown(back), shown(m))
		}
	}
}

// TestEncodeSaid: the document's example 1.
func TestEncodeSaid(t *testing.T) {
	for want, m := range map[string]api.Mutation{
		"\x04\x02\x00M1":                     based("M1"),
		"\x02\x02\x00M2\x01\x02\x00A1":       gone("M2", "A1"),
		"\x04\x00\x00":                       based(""),
		"\x02\x00\x00\x02\x01\x00A\x01\x00B": gone("", "A", "B"),
		"\x03\x03\x00\x31.2\x01\x14\x00\x00\x00\x40\x00\x52\x02\x0c\x00\x00\x00IN PROGRESS \x01\x00\x01\x00A\x02": performed(perf("1.2", 1), moves(2, "A")...),
	} {
		if b, err := store.Encode(m); err != nil || string(b) != want {
			t.Errorf("P12.3: %v % x, not % x", err, b, want)
		}
	}
}

// TestDecodeCut: P12.4: every beginning of a record, and bytes that are left behind one.
func TestDecodeCut(t *testing.T) {
	for _, m := range append(corpus(), great(t)[3:]...) {
		l := byHand(t, m)
		for n := range l.bytes {
			at := 0
			for _, x := range l.things {
				if x[1] > n {
					at = x[0]
					break
				}
			}
			got, err := store.Decode(l.bytes[:n:n])
			refused(t, "P12.4: a beginning", err, at, api.ErrStoreForm)
			if !same(got, api.Mutation{}) {
				t.Fatalf("DOC.md, Errors: %s beside a refusal", shown(got))
			}
		}
		for _, more := range []string{"\x00", "\x04\x00\x00", long("x", 70000)} {
			_, err := store.Decode(append(bytes.Clone(l.bytes), more...))
			refused(t, "P12.4: bytes that are left", err, len(l.bytes), api.ErrStoreForm)
		}
	}
	for _, b := range [][]byte{nil, {}} {
		_, err := store.Decode(b)
		refused(t, "P12.4: nothing", err, 0, api.ErrStoreForm)
	}
}

// TestDecodeKind: P12.4: a kind that is none, whatever is behind it.
func TestDecodeKind(t *testing.T) {
	for kind := range 256 {
		if kind >= 1 && kind <= 4 {
			continue
		}
		for _, m := range corpus() {
			b := byHand(t, m).bytes
			b[0] = byte(kind)
			_, err := store.Decode(b)
			refused(t, "P12.4: kind", err, 0, api.ErrStoreForm)
			_, err = store.Decode(b[:1])
			refused(t, "P12.4: kind", err, 0, api.ErrStoreForm)
		}
	}
}

// TestDecodeSpoilt: P12.4: every byte of small records turned into others, taken out, and put in; two readers.
func TestDecodeSpoilt(t *testing.T) {
	seen := map[api.Errno]int{}
	for _, m := range corpus() {
		b := byHand(t, m).bytes
		for i := range b {
			for _, x := range []byte{0, 1, 2, 3, 4, 5, 8, 9, 16, 32, 48, 65, 92, 126, 127, 128, 254, 255, b[i] - 1, b[i] + 1} {
				c := bytes.Clone(b)
				c[i] = x
				seen[decodeIs(t, "a byte turned", c)]++
				seen[decodeIs(t, "a byte put in", bytes.Join([][]byte{b[:i], {x}, b[i:]}, nil))]++
			}
			seen[decodeIs(t, "a byte taken out", append(bytes.Clone(b[:i]), b[i+1:]...))]++
		}
	}
	if seen[api.OK] < 100 || seen[api.ErrStoreForm] < 100 || seen[api.ErrStoreMutation] < 100 {
		t.Errorf("P12.4: the inputs are too much alike: %v", seen)
	}
}

// TestDecodeRandom: P12.4: bytes of any kind.
func TestDecodeRandom(t *testing.T) {
	rnd := rand.New(rand.NewPCG(12, 4))
	for range 100000 {
		b := make([]byte, rnd.IntN(40))
		for i := range b {
			b[i] = byte(rnd.IntN(6))
			if rnd.IntN(20) == 0 {
				b[i] = byte(rnd.IntN(256))
			}
		}
		decodeIs(t, "random bytes", b)
	}
}

// TestDecodeUnformed: P12.4: what can be read and may not be is ErrStoreMutation at 0, wherever it is wrong.
func TestDecodeUnformed(t *testing.T) {
	wrong := 0
	for kind := api.MStep; kind <= api.MBase; kind++ {
		for _, x := range turnsOf(t, kind) {
			m := whole(kind)
			x.make(&m)
			if !readable(m) {
				continue
			}
			if reason := decodeIs(t, x.name, byHand(t, m).bytes); reason == api.ErrStoreMutation {
				wrong++
			}
		}
	}
	if wrong < 40 {
		t.Errorf("P12.4: only %d were wrong", wrong)
	}
	for _, m := range []api.Mutation{putSteps("M"), gone("M"), gone("M", ids(255)...), putSteps("M", rows(ids(255)...)...), performed(perf("1.2", 1), moves(2, ids(1000)...)...)} {
		_, err := store.Decode(byHand(t, m).bytes)
		refused(t, "P12.4: how many", err, 0, api.ErrStoreMutation)
	}
}

// readable tells whether the bytes can say the mutation, as far as its kind uses it.
func readable(m api.Mutation) bool {
	for _, s := range m.Steps {
		if len(s.ProcedureDesc) > 65535 {
			return false
		}
	}
	_, err := dataset.Encode(m.Perf.Data, api.Implicit)
	return err == nil && len(m.Steps) < 256 && len(m.IDs) < 256 && len(m.Control) < 65536
}

// TestDecodeData: P12.4: data sets that are none, or in another form than the one that Encode gives.
func TestDecodeData(t *testing.T) {
	good := "\x40\x00\x52\x02\x0c\x00\x00\x00IN PROGRESS "
	series := "\x40\x00\x40\x03"
	for data, reason := range map[string]api.Errno{
		good:                               api.OK,
		"":                                 api.ErrStoreMutation,
		good + series + "\x00\x00\x00\x00": api.OK,
		good + series + "\xff\xff\xff\xff\xfe\xff\xdd\xe0\x00\x00\x00\x00":                                 api.ErrStoreForm, // a length that need not be undefined
		good + series + "\x08\x00\x00\x00\xfe\xff\x00\xe0\x00\x00\x00\x00":                                 api.OK,
		good + series + "\x10\x00\x00\x00\xfe\xff\x00\xe0\xff\xff\xff\xff\xfe\xff\x0d\xe0\x00\x00\x00\x00": api.ErrStoreForm,
		"\x40\x00\x00\x00\x04\x00\x00\x00\x14\x00\x00\x00" + good:                                          api.ErrStoreForm, // a group length
		"\x40\x00\x52\x02\x0e\x00\x00\x00IN PROGRESS   ":                                                   api.ErrStoreForm, // more padding than is asked for
		"\x40\x00\x52\x02\x0c\x00\x00\x00IN PROGRESS\x00":                                                  api.ErrStoreForm, // another padding
		good[:19]:   api.ErrStoreForm,
		good[:7]:    api.ErrStoreForm,
		good + good: api.ErrStoreForm,
		good + "\x41\x00\x01\x10\xff\xff\xff\xff\xfe\xff\xdd\xe0\x00\x00\x00\x00": api.OK, // a sequence that nobody knows
		good + "\x41\x00\x01\x10\x08\x00\x00\x00\xfe\xff\xdd\xe0\x00\x00\x00\x00": api.OK, // bytes that nobody knows
		"\x08\x00\x05\x00\x00\x00\x00\x00" + good:                                 api.ErrStoreMutation,
		"\x40\x00\x52\x02\x0a\x00\x00\x00COMPLETED ":                              api.ErrStoreMutation,
		long("\x40\x00\x53\x02\x00\x00\x00\x00", 1<<17+1):                         api.ErrStoreForm,
		good + "\x40\x00\x00\x40\x00\x00\x02\x00" + long("x", 1<<17):              api.ErrStoreForm,
		good + "\x40\x00\x00\x40\x00\x80\x00\x00" + long("x", 1<<15):              api.ErrStoreMutation,
	} {
		l := &laid{}
		l.one(api.MPerf)
		l.perf(api.Perf{UID: "1.2", State: api.PerfProgress}, []byte(data), nil)
		m, err := store.Decode(l.bytes)
		at := 0
		if reason == api.ErrStoreForm {
			at = l.things[3][0] + 4
		}
		if !is(err, reason, at) {
			t.Errorf("P12.4: data set % .60x: %v, not %d at %d: %s", data, err, reason, at, shown(m))
		}
		decodeIs(t, "a data set", l.bytes)
	}
}

// TestDecodeLengths: P12.4: numbers that are greater than all there is.
func TestDecodeLengths(t *testing.T) {
	for _, c := range []struct {
		bytes string
		at    int
	}{
		{"\x04\xff\xffM", 1}, {"\x02\x00\x00\xff", 4}, {"\x02\x00\x00\x01\xff\xff", 4}, {"\x01\x00\x00\xff", 4},
		{"\x03\x01\x001\x01\xff\xff\xff\xff", 5}, {"\x03\x01\x001\x01\x00\x00\x00\x80", 5}, {"\x03\x01\x001\x01\x00\x00\x00\x00\xff\xff", 11}, {"\x03\x01\x001\x01\x01\x00\x00", 5},
	} {
		_, err := store.Decode([]byte(c.bytes))
		refused(t, "P12.4: a length", err, c.at, api.ErrStoreForm)
		decodeIs(t, "a length", []byte(c.bytes))
	}
}
