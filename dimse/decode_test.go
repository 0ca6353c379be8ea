package dimse_test

import (
	"bytes"
	"encoding/binary"
	"math/rand"
	"slices"
	"strings"
	"testing"

	"modality/api"
	"modality/dimse"
)

// TestDecodeExamples: the document's third example.
func TestDecodeExamples(t *testing.T) {
	b := echoed()
	wantCmd(t, b, echo())
	wantUnread(t, b[:58], api.ErrDimseGroup, 0)
	wantUnread(t, grouped(b[12:58]), api.ErrDimseMissing, 2048)
}

// with is example 1's bytes with others at a place.
func with(at int, v ...byte) []byte {
	b := echoed()
	copy(b[at:], v)
	return b
}

// TestHeads: what is told of elements, whatever the command, and in which order.
func TestHeads(t *testing.T) {
	b := echoed()
	for _, x := range []struct {
		b    []byte
		code api.Errno
		at   int
	}{
		{nil, api.ErrDimseGroup, 0},
		{[]byte{}, api.ErrDimseGroup, 0},
		{b[:1], api.ErrDimseShort, 0}, {b[:7], api.ErrDimseShort, 0}, {b[:8], api.ErrDimseShort, 0}, {b[:11], api.ErrDimseShort, 0},
		{b[:13], api.ErrDimseShort, 12}, {b[:19], api.ErrDimseShort, 12}, {b[:20], api.ErrDimseShort, 12}, {b[:37], api.ErrDimseShort, 12},
		{b[:60], api.ErrDimseShort, 58}, {b[:67], api.ErrDimseShort, 58},
		{append(echoed(), 0), api.ErrDimseShort, 68},
		{with(0, 1), api.ErrDimseTag, 0}, {with(12, 8), api.ErrDimseTag, 12}, {with(13, 1), api.ErrDimseTag, 12},
		{with(14, 0, 0), api.ErrDimseTag, 12}, // as high as the one ahead
		{with(40, 1, 0), api.ErrDimseTag, 38}, // below it
		{with(40, 2, 0), api.ErrDimseTag, 38}, // the same again
		{with(60, 0, 0), api.ErrDimseTag, 58}, // the group length behind others
		{with(16, 0x11), api.ErrDimseLength, 12}, {with(16, 1), api.ErrDimseLength, 12},
		{with(16, 0xFF, 0xFF, 0xFF, 0xFF), api.ErrDimseLength, 12},
		{with(16, 0xFE, 0xFF, 0xFF, 0xFF), api.ErrDimseShort, 12},
		{with(16, 0, 0, 0, 0x80), api.ErrDimseShort, 12},
		{with(16, 0x12, 0, 0, 0x80), api.ErrDimseShort, 12},
		{with(16, 0x32), api.ErrDimseShort, 12}, // two more than are left
		{with(62, 4), api.ErrDimseShort, 58},
		{with(62, 3), api.ErrDimseLength, 58},
		{with(12, 8, 0, 0, 0, 0xFF, 0xFF), api.ErrDimseTag, 12}, // the tag ahead of the length
		{with(16, 0xFF, 0xFF), api.ErrDimseLength, 12},          // the length ahead of what is left
		{append(with(8, 0), 1, 2, 3), api.ErrDimseShort, 68},    // the elements ahead of the group length
		{append(with(46, 0x31), 8, 0, 0, 0, 0, 0, 0, 0), api.ErrDimseTag, 68},
	} {
		wantUnread(t, x.b, x.code, x.at)
	}
}

// TestGroupLength: where it stands, how many bytes it has, what it tells.
func TestGroupLength(t *testing.T) {
	rest := echoed()[12:]
	length := func(v ...byte) []byte { return append(lay(part{0, v}), rest...) }
	wantCmd(t, length(0x38, 0, 0, 0), echo())
	for _, b := range [][]byte{
		rest, length(), length(0x38, 0), length(0x38, 0, 0, 0, 0, 0), length(0x37, 0, 0, 0), length(0x39, 0, 0, 0), length(0x38, 1, 0, 0), length(0x38, 0, 0, 1), length(0, 0, 0, 0), length(0x44, 0, 0, 0),
		length(0, 0, 0, 0x38), length(0xC7, 0xFF, 0xFF, 0xFF),
		lay(part{1, raw(0x38, 0, 0, 0)}, part{2, raw(1, 2)}),
	} {
		wantUnread(t, b, api.ErrDimseGroup, 0)
	}
	// The group length ahead of the Command Field.
	wantUnread(t, lay(part{0, raw(9, 0, 0, 0)}), api.ErrDimseGroup, 0)
	wantUnread(t, lay(part{0, raw(0, 0, 0, 0)}), api.ErrDimseField, 0)
}

// TestCommandField: missing, of another length, unknown; and ahead of every other element.
func TestCommandField(t *testing.T) {
	for _, b := range [][]byte{
		set(text(2, "x"+"y"), us(0x0110, 7), us(0x0800, 1)),
		set(text(2, "1\x00"), part{0x0100, nil}, us(0x0110, 7), us(0x0800, 1)),
		set(text(2, "1\x00"), part{0x0100, raw(0x30, 0, 0, 0)}, us(0x0110, 7), us(0x0800, 1)),
		set(text(2, "xx"), us(0x0100, 0x3000)),
		set(us(0x0100, 0x8FFF), us(0x0120, 1), us(0x0800, 0x0101), us(0x0900, 0)),
		set(us(0x0101, 0x0030)),
	} {
		wantUnread(t, b, api.ErrDimseField, 0)
	}
}

// TestDecodeValues: values of elements, with what may be behind a text and what may not be.
func TestDecodeValues(t *testing.T) {
	answered := func(put func(c *api.Cmd)) api.Cmd {
		c := api.Cmd{Field: 0x8110, To: 1, Status: 2}
		put(&c)
		return c
	}
	bytesOf := func(p part) []byte {
		parts := []part{us(0x0100, 0x8110), us(0x0120, 1), us(0x0800, 0x0101), us(0x0900, 2), p}
		slices.SortFunc(parts, func(a, b part) int { return int(a.number) - int(b.number) })
		return set(parts...)
	}
	long := "1." + strings.Repeat("2", 62)
	for _, x := range []struct {
		value, want string
	}{{"1.2\x00", "1.2"}, {"1.22", "1.22"}, {"1.2 ", "1.2"}, {"1.2   ", "1.2"}, {"1.2\x00\x00\x00", "1.2"}, {"1.2 \x00 ", "1.2"}, {"", ""}, {"\x00\x00", ""}, {"    ", ""}, {long, long}, {long + "\x00\x00", long}} {
		wantCmd(t, bytesOf(text(2, x.value)), answered(func(c *api.Cmd) { c.Class = x.want }))
		wantCmd(t, bytesOf(text(0x1000, x.value)), answered(func(c *api.Cmd) { c.Instance = x.want }))
	}
	for _, value := range []string{"1.02", "1..2", "1.2.", "\x001", " 1.2", "1.2\x00\x001", "abcd", `1.2\1.3 `, long + "3 ", "\xFF\xFF"} {
		value = value[:len(value)/2*2]
		wantUnread(t, bytesOf(text(2, value)), api.ErrDimseValue, 0x0002)
		wantUnread(t, bytesOf(text(0x1000, value)), api.ErrDimseValue, 0x1000)
	}
	for _, x := range []struct {
		value, want string
	}{{"no", "no"}, {"no! ", "no!"}, {"no!\x00", "no!"}, {"no  ", "no"}, {"", ""}, {"  ", ""}, {"\x00 ", ""}, {" x", " x"}, {strings.Repeat("y", 64), strings.Repeat("y", 64)}, {strings.Repeat("y", 64) + strings.Repeat(" ", 100), strings.Repeat("y", 64)}} {
		wantCmd(t, bytesOf(text(0x0902, x.value)), answered(func(c *api.Cmd) { c.Comment = x.want }))
	}
	for _, value := range []string{`a\`, "a\n", "\x7F ", "\xC3\xA9", "\x00x", strings.Repeat("y", 65) + " ", strings.Repeat(" ", 65) + "x"} {
		wantUnread(t, bytesOf(text(0x0902, value)), api.ErrDimseValue, 0x0902)
	}
	for _, number := range []uint16{0x0120, 0x0800, 0x0900, 0x0903} {
		for _, size := range []int{0, 4, 6} {
			parts := []part{us(0x0100, 0x8110), us(0x0120, 1), us(0x0800, 0x0101), us(0x0900, 2), us(0x0903, 3)}
			i := slices.IndexFunc(parts, func(p part) bool { return p.number == number })
			parts[i].value = make([]byte, size)
			wantUnread(t, set(parts...), api.ErrDimseValue, int(number))
		}
	}
	for n, value := range [][]byte{nil, raw(1, 0, 2, 0), raw(0xFE, 0xFF, 0, 0xE0, 0, 0, 0, 0)} {
		tags := [][]api.Tag{nil, {0x00010002}, {0xFFFEE000, 0}}[n]
		wantCmd(t, bytesOf(part{0x0901, value}), answered(func(c *api.Cmd) { c.Offending = tags }))
		wantCmd(t, bytesOf(part{0x1005, value}), answered(func(c *api.Cmd) { c.Attrs = tags }))
	}
	for _, size := range []int{2, 6, 10} {
		wantUnread(t, bytesOf(part{0x0901, make([]byte, size)}), api.ErrDimseValue, 0x0901)
		wantUnread(t, bytesOf(part{0x1005, make([]byte, size)}), api.ErrDimseValue, 0x1005)
	}
	wantCmd(t, bytesOf(us(0x0903, 0)), answered(func(c *api.Cmd) {}))
	wantCmd(t, bytesOf(us(0x0903, 0xA710)), answered(func(c *api.Cmd) { c.ErrorId = 0xA710 }))
}

// TestUIDThatMustBe: one that is there without a value is a wrong value, not a missing element.
func TestUIDThatMustBe(t *testing.T) {
	get := func(class, instance string) []byte {
		return set(text(3, class), us(0x0100, 0x0110), us(0x0110, 1), us(0x0800, 0x0101), text(0x1001, instance))
	}
	wantCmd(t, get("1\x00", "2\x00"), api.Cmd{Field: 0x0110, Class: "1", Instance: "2", Id: 1})
	for _, none := range []string{"", "  ", "\x00\x00", " \x00"} {
		wantUnread(t, get(none, "2\x00"), api.ErrDimseValue, 0x0003)
		wantUnread(t, get("1\x00", none), api.ErrDimseValue, 0x1001)
		wantUnread(t, get(none, none), api.ErrDimseValue, 0x0003)
	}
}

// TestDataSetType: of all numbers 0101H alone says that there is no data set.
func TestDataSetType(t *testing.T) {
	for n := range 1 << 16 {
		c, err := dimse.DecodeCmd(set(us(0x0100, 0x0FFF), us(0x0120, 3), us(0x0800, uint16(n))))
		if err != nil || !same(c, api.Cmd{Field: 0x0FFF, To: 3, HasData: n != 0x0101}) {
			t.Fatalf("P10.3: CommandDataSetType %04XH: %s, %v", n, shown(c), err)
		}
	}
}

// TestNumbers: every number may be, and is read back.
func TestNumbers(t *testing.T) {
	for n := range 1 << 16 {
		x := uint16(n)
		for _, c := range []api.Cmd{{Field: 0x0020, Class: "1", Id: x, Priority: ^x}, {Field: 0x8020, To: x, Status: ^x, ErrorId: x + 1, Offending: []api.Tag{api.Tag(x)<<16 | api.Tag(^x)}}} {
			if back, err := dimse.DecodeCmd(mustEncode(t, c)); err != nil || !same(back, c) {
				t.Fatalf("P10.7: %s: %s, %v", shown(c), shown(back), err)
			}
		}
	}
}

// variant is an element in one of the ways in which it may come.
type variant struct {
	there bool
	part  part
}

// variants gives the ways in which an element may come: right (first), not there, without a value, too short or too long, wrong.
func variants(l line) []variant {
	values := map[string][]string{
		"US": {"\x01\x00", "", "\x01\x00\x00\x00"},
		"AT": {"\x10\x00\x20\x00", "", "\x10\x00", "\x10\x00\x20\x00\x10\x00\x20\x00", "\x10\x00\x20\x00\x10\x00"},
		"UI": {"1.2\x00", "", "\x00\x00", "1.02", "1.2 "},
		"LO": {"no", "", "  ", `n\`, "a\x00 \x00"},
	}[l.vr]
	list := []variant{{true, text(l.number, values[0])}, {}}
	for _, v := range values[1:] {
		list = append(list, variant{true, text(l.number, v)})
	}
	return list
}

// wantAsModel fails if bytes are not read as the second reader reads them, or if what is read is not laid down and read as the same.
func wantAsModel(t *testing.T, d *document, b []byte) api.Errno {
	t.Helper()
	want := d.decode(b)
	if want.code != api.OK {
		if c, err := dimse.DecodeCmd(b); !same(c, api.Cmd{}) || !is(err, want.code, want.at) {
			t.Fatalf("P10.3: %s: %s, %v; want %d at %d", hex(b), shown(c), err, want.code, want.at)
		}
		return want.code
	}
	wantCmd(t, b, want.cmd)
	return api.OK
}

// TestDecodePairs: every command with every two of its elements in every way, against the second reader.
func TestDecodePairs(t *testing.T) {
	d := readDocument()
	count := map[api.Errno]int{}
	for field := range d.rows {
		for i, first := range d.lines {
			for k, second := range d.lines[:i+1] {
				for _, v := range variants(first) {
					for _, w := range variants(second) {
						var parts []part
						for n, l := range d.lines {
							x := variants(l)[0]
							if l.number == 0x0100 {
								x.part = us(0x0100, field)
							}
							if n == k {
								x = w
							}
							if n == i {
								x = v
							}
							if x.there {
								parts = append(parts, x.part)
							}
						}
						count[wantAsModel(t, d, set(parts...))]++
					}
				}
			}
		}
	}
	for _, code := range []api.Errno{api.OK, api.ErrDimseField, api.ErrDimseMissing, api.ErrDimseValue} {
		if count[code] < 1000 {
			t.Errorf("the test has %d sets with %d", count[code], code)
		}
	}
}

// TestUnusedElements: what a command does not use is let go, whatever it says: other elements of the group, and those of other commands.
func TestUnusedElements(t *testing.T) {
	d := readDocument()
	for field, r := range d.rows {
		var used []part
		for _, l := range d.lines {
			p := variants(l)[0].part
			if l.number == 0x0100 {
				p = us(0x0100, field)
			}
			if r.use(l) != "-" {
				used = append(used, p)
			}
		}
		want, err := dimse.DecodeCmd(set(used...))
		if err != nil {
			t.Fatalf("P10.3: %04XH: %v", field, err)
		}
		others := []part{text(0x0001, "any"+"x"), text(0x0600, "AE"), text(0x0904, ""), text(0x1002, "1234"), text(0x1008, "12"), text(0xFFFF, strings.Repeat("z", 1000))}
		for _, l := range d.lines {
			if r.use(l) == "-" {
				others = append(others, text(l.number, "what that is"))
			}
		}
		for _, more := range [][]part{others, others[:1], others[5:6]} {
			all := slices.Concat(used, more)
			slices.SortFunc(all, func(a, b part) int { return int(a.number) - int(b.number) })
			wantCmd(t, set(all...), want)
		}
	}
}

// TestDecodeLong: MaxCommand bytes are read, and one more is too many whatever it is.
func TestDecodeLong(t *testing.T) {
	filled := func(size int) []byte {
		b := echoed()[12:]
		return grouped(append(b, lay(text(0x2000, strings.Repeat("\xFF", size-68-8)))...))
	}
	if b := filled(api.MaxCommand); len(b) != api.MaxCommand {
		t.Fatalf("the test's set has %d bytes", len(b))
	}
	wantCmd(t, filled(api.MaxCommand), echo())
	wantUnread(t, filled(api.MaxCommand+2), api.ErrDimseLong, api.MaxCommand)
	wantUnread(t, append(filled(api.MaxCommand), 0), api.ErrDimseLong, api.MaxCommand)
	wantUnread(t, make([]byte, api.MaxCommand+1), api.ErrDimseLong, api.MaxCommand)
	wantUnread(t, make([]byte, 1<<24), api.ErrDimseLong, api.MaxCommand)
	wantUnread(t, make([]byte, api.MaxCommand), api.ErrDimseTag, 8)
}

// someCmd gives a command at random that may be laid down.
func someCmd(r *rand.Rand, d *document) api.Cmd {
	uid := func() string { return []string{"1", "1.2", "1.2.840.10008.1.1", "0.0"}[r.Intn(4)] }
	tags := func() (list []api.Tag) {
		for range r.Intn(4) {
			list = append(list, api.Tag(r.Uint32()))
		}
		return list
	}
	for {
		c := api.Cmd{
			Class: uid(), Instance: uid(), Id: uint16(r.Intn(3)), To: uint16(r.Intn(70000)), Priority: uint16(r.Intn(3)), HasData: r.Intn(2) == 0,
			Status: uint16(r.Intn(70000)), Offending: tags(), Comment: []string{"", "no", "why not?"}[r.Intn(3)], ErrorId: uint16(r.Intn(3)), Attrs: tags(),
		}
		c.Field = uint16([]int{1, 0x10, 0x20, 0x21, 0x30, 0x100, 0x110, 0x120, 0x130, 0x140, 0x150, 0xFFF}[r.Intn(12)] | r.Intn(2)<<15)
		row, known := d.rows[c.Field]
		if !known {
			continue
		}
		zeros := []func(){1: func() { c.Class = "" }, 2: func() { c.Instance = "" }, 3: func() { c.Id = 0 }, 4: func() { c.To = 0 }, 5: func() { c.Priority = 0 }, 7: func() { c.Status = 0 }, 8: func() { c.Offending = nil }, 9: func() { c.Comment = "" }, 10: func() { c.ErrorId = 0 }, 11: func() { c.Attrs = nil }}
		for place, zero := range zeros {
			if zero != nil && (row.uses[place] == "-" || row.uses[place] == "O" && r.Intn(3) == 0) {
				zero()
			}
		}
		return c
	}
}

// spoil turns a few bytes of a command set, or cuts or lengthens it; sometimes it puts the group length right again.
func spoil(r *rand.Rand, b []byte) []byte {
	b = bytes.Clone(b)
	for range 1 + r.Intn(3) {
		at := r.Intn(len(b) + 1)
		switch r.Intn(6) {
		case 0:
			b = b[:at]
		case 1:
			b = slices.Insert(b, at, make([]byte, r.Intn(12))...)
		case 2:
			b = slices.Delete(b, at, min(len(b), at+r.Intn(12)))
		case 3:
			b = append(b, b[at:]...)
		default:
			if at < len(b) {
				b[at] = []byte{0, 1, 2, 4, 8, 0x80, 0xFF, b[at] ^ 1, b[at] + 2, ' '}[r.Intn(10)]
			}
		}
	}
	if len(b) >= 12 && r.Intn(2) == 0 {
		binary.LittleEndian.PutUint32(b[8:], uint32(len(b)-12))
	}
	return b
}

// TestDecodeSpoilt: spoilt sets against the second reader.
func TestDecodeSpoilt(t *testing.T) {
	d, r := readDocument(), rand.New(rand.NewSource(101))
	count := map[api.Errno]int{}
	for range 150000 {
		count[wantAsModel(t, d, spoil(r, mustEncode(t, someCmd(r, d))))]++
	}
	for code := api.ErrDimseShort; code <= api.ErrDimseValue; code++ {
		if count[code] < 50 {
			t.Errorf("the test has %d sets with %d", count[code], code)
		}
	}
	if count[api.OK] < 1000 {
		t.Errorf("the test has %d sets that are read", count[api.OK])
	}
}

// TestDecodeCuts: every beginning and every end of a set against the second reader, also with the group length put right.
func TestDecodeCuts(t *testing.T) {
	d := readDocument()
	b := mustEncode(t, answer())
	for n := range len(b) + 1 {
		wantAsModel(t, d, b[:n])
		wantAsModel(t, d, b[n:])
		if n >= 12 {
			wantAsModel(t, d, grouped(b[12:n]))
			wantAsModel(t, d, grouped(b[n:]))
		}
	}
}

// TestBack: commands at random, laid down as the second writer does and read back.
func TestBack(t *testing.T) {
	d, r := readDocument(), rand.New(rand.NewSource(102))
	for range 50000 {
		c := someCmd(r, d)
		wantBytes(t, c, d.encode(c).bytes)
	}
}
