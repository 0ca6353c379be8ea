package journal_test

import (
	"bytes"
	"hash/crc32"
	"math/rand/v2"
	"reflect"
	"testing"

	"modality/api"
	"modality/journal"
)

// P2.1
func TestSum(t *testing.T) {
	for _, c := range []struct {
		in   string
		want uint32
	}{
		{"", 0},
		{"123456789", 0xcbf43926},
		{"\x00\x00\x00\x00", 0x2144df1c},
		{"\x00", 0xd202ef8d},
		{"\xff", 0xff000000},
		{"a", 0xe8b7be43},
	} {
		if got := journal.Sum([]byte(c.in)); got != c.want {
			t.Errorf("Sum(%q) = %x, not %x", c.in, got, c.want)
		}
	}
	for c := range 256 {
		b := []byte{byte(c)}
		if got := journal.Sum(b); got != crc32.ChecksumIEEE(b) {
			t.Errorf("Sum(%x) = %x", c, got)
		}
	}
	rnd := rand.New(rand.NewPCG(1, 2))
	for n := range 300 {
		b := make([]byte, n)
		for i := range b {
			b[i] = byte(rnd.Uint32())
		}
		if got := journal.Sum(b); got != crc32.ChecksumIEEE(b) {
			t.Fatalf("Sum of %d bytes = %x", n, got)
		}
	}
}

// P2.2
func TestFrame(t *testing.T) {
	for _, c := range []struct {
		number uint32
		body   []byte
	}{
		{0, nil}, {0, []byte{}}, {1, []byte("xy")}, {0x01020304, []byte{0}}, {1<<32 - 1, []byte("last")},
		{7, bytes.Repeat([]byte{9}, 300)}, {3, make([]byte, 131072)},
	} {
		got, err := journal.Frame(c.number, c.body)
		want := rawFrame(0xa5, c.number, uint32(len(c.body)), c.body)
		if err != nil || !bytes.Equal(got, want) {
			t.Errorf("Frame(%d, %d bytes): %v, or other bytes", c.number, len(c.body), err)
		}
		if len(got) != 17+len(c.body) {
			t.Errorf("Frame(%d, %d bytes) has %d", c.number, len(c.body), len(got))
		}
	}
	// byte by byte
	got, _ := journal.Frame(0x04030201, []byte("z"))
	want := []byte{0xa5, 1, 2, 3, 4, 1, 0, 0, 0}
	s := crc32.ChecksumIEEE(want)
	want = append(want, byte(s), byte(s>>8), byte(s>>16), byte(s>>24), 'z')
	s = crc32.ChecksumIEEE([]byte("z"))
	want = append(want, byte(s), byte(s>>8), byte(s>>16), byte(s>>24))
	if !bytes.Equal(got, want) {
		t.Errorf("% x, not % x", got, want)
	}
	for _, n := range []int{131073, 200000} {
		b, err := journal.Frame(5, make([]byte, n))
		faulty(t, "a long body", err, 0, api.ErrJournalLong)
		if b != nil {
			t.Error("bytes beside a refusal")
		}
	}
}

// P2.3
func TestHead(t *testing.T) {
	for _, gen := range []uint64{1, 2, 255, 1 << 32, 0x0102030405060708, 1<<64 - 1} {
		for _, base := range [][][]byte{nil, {}, bodies(""), bodies("a", "", "bcd"), make([][]byte, 600), {make([]byte, 131072), []byte("x")}} {
			got, err := journal.Head(gen, base)
			if err != nil || !bytes.Equal(got, slotOf(gen, base, nil)) {
				t.Errorf("Head(%d, %d bodies): %v, or other bytes", gen, len(base), err)
			}
		}
	}
	// byte by byte
	got, _ := journal.Head(0x0807060504030201, bodies("q", "rs"))
	want := []byte{0x4d, 0x57, 0x4a, 1, 1, 2, 3, 4, 5, 6, 7, 8, 2, 0, 0, 0, 18 + 19, 0, 0, 0}
	s := crc32.ChecksumIEEE(want)
	want = append(want, byte(s), byte(s>>8), byte(s>>16), byte(s>>24))
	want = append(append(want, frame(0, []byte("q"))...), frame(1, []byte("rs"))...)
	if !bytes.Equal(got, want) {
		t.Errorf("% x, not % x", got, want)
	}
}

func TestHeadRefuses(t *testing.T) {
	long, short := make([]byte, 131073), []byte("s")
	many := make([][]byte, 601)
	longMany := append([][]byte{long}, many...)
	for _, c := range []struct {
		what string
		gen  uint64
		base [][]byte
		at   int
		want api.Errno
	}{
		{"generation 0", 0, nil, 0, api.ErrJournalGen},
		{"generation 0, many", 0, many, 0, api.ErrJournalGen},
		{"generation 0, long", 0, [][]byte{short, long}, 0, api.ErrJournalGen},
		{"many", 1, many, 0, api.ErrJournalBase},
		{"many and long", 1, longMany, 0, api.ErrJournalBase},
		{"the first long", 1, [][]byte{long}, 0, api.ErrJournalLong},
		{"the third and fourth long", 9, [][]byte{short, nil, long, long}, 2, api.ErrJournalLong},
		{"the last of 600 long", 1, append(make([][]byte, 599), long), 599, api.ErrJournalLong},
	} {
		b, err := journal.Head(c.gen, c.base)
		faulty(t, c.what, err, c.at, c.want)
		if b != nil {
			t.Errorf("%s: bytes beside a refusal", c.what)
		}
	}
}

func scans(t *testing.T, what string, data []byte, want api.JournalScan) {
	t.Helper()
	got, err := journal.Scan(data)
	if err != nil || !reflect.DeepEqual(got, want) {
		t.Fatalf("%s: %+v %v, not %+v", what, got, err, want)
	}
}

func noSlot(t *testing.T, what string, data []byte) {
	t.Helper()
	got, err := journal.Scan(data)
	faulty(t, what, err, 0, api.ErrJournalForm)
	if !reflect.DeepEqual(got, api.JournalScan{}) {
		t.Fatalf("%s: %+v beside a refusal", what, got)
	}
}

// P2.4
func TestScan(t *testing.T) {
	lists := [][][]byte{nil, bodies(""), bodies("a", "", "bcd"), {make([]byte, 131072)}, make([][]byte, 600)}
	for _, gen := range []uint64{1, 1 << 33, 1<<64 - 1} {
		for _, base := range lists {
			for _, records := range append(lists, make([][]byte, 1000)) {
				data := slotOf(gen, base, records)
				want := api.JournalScan{Gen: gen, Base: base, Records: records, Good: len(data)}
				scans(t, "whole", data, want)
				scans(t, "zeros behind", append(bytes.Clone(data), make([]byte, 40)...), want)
				scans(t, "one byte behind", append(bytes.Clone(data), 0xa5), want)
			}
		}
	}
}

// Every beginning of a slot: no slot up to the end of its base, then the records that are all there.
func TestScanOfBeginnings(t *testing.T) {
	base, records := bodies("one", "", "three"), bodies("r", "", "rrr")
	data := slotOf(5, base, records)
	start := len(slotOf(5, base, nil))
	for n := range len(data) + 1 {
		if n < start {
			noSlot(t, "a beginning", data[:n])
			continue
		}
		kept := 0
		for kept < len(records) && start+len(frames(records[:kept+1])) <= n {
			kept++
		}
		want := api.JournalScan{Gen: 5, Base: base, Good: start + len(frames(records[:kept]))}
		if kept > 0 {
			want.Records = records[:kept]
		}
		scans(t, "a beginning", data[:n], want)
	}
}

func TestScanNoSlot(t *testing.T) {
	join := func(parts ...[]byte) []byte { return bytes.Join(parts, nil) }
	x, y := frame(0, []byte("x")), frame(1, []byte("y"))
	for _, c := range []struct {
		what string
		data []byte
	}{
		{"nothing", nil},
		{"24 bytes 0", make([]byte, 24)},
		{"many bytes 0", make([]byte, 4000)},
		{"another magic", rawHead("MWJ\x02", 1, 0, 0)},
		{"another magic", rawHead("mWJ\x01", 1, 0, 0)},
		{"generation 0", rawHead(magic, 0, 0, 0)},
		{"601 bodies", append(rawHead(magic, 1, 601, 601*17), frames(make([][]byte, 601))...)},
		{"2^32 - 1 bodies", append(rawHead(magic, 1, 1<<32-1, 18), x...)},
		{"2^32 - 1 bytes", append(rawHead(magic, 1, 1, 1<<32-1), x...)},
		{"one body, none is there", rawHead(magic, 1, 1, 0)},
		{"one body, none is there", rawHead(magic, 1, 1, 18)},
		{"a byte too few", append(rawHead(magic, 1, 1, 17), x...)},
		{"a byte too many", append(rawHead(magic, 1, 1, 19), append(x, 0)...)},
		{"a body more than told", join(rawHead(magic, 1, 1, 36), x, y)},
		{"a body less than told", join(rawHead(magic, 1, 2, 18), x, y)},
		{"no bodies, but bytes", join(rawHead(magic, 1, 0, 18), x)},
		{"numbers from 1 on", join(rawHead(magic, 1, 1, 18), y)},
		{"a number twice", join(rawHead(magic, 1, 2, 36), x, x)},
		{"another mark", join(rawHead(magic, 1, 1, 18), rawFrame(0xa4, 0, 1, []byte("x")))},
		{"a length too great by one", join(rawHead(magic, 1, 1, 18), rawFrame(0xa5, 0, 2, []byte("x")), make([]byte, 9))},
		{"a body too long", join(rawHead(magic, 1, 1, 17+131073), frame(0, make([]byte, 131073)))},
	} {
		noSlot(t, c.what, c.data)
	}
}

// Records end at the first place where none is.
func TestScanEnds(t *testing.T) {
	head := slotOf(3, bodies("b"), nil)
	x, y := frame(0, []byte("x")), frame(1, []byte("y"))
	for _, c := range []struct {
		what string
		tail [][]byte
		want [][]byte
	}{
		{"numbers from 0 on", [][]byte{x, y}, bodies("x", "y")},
		{"the base's numbers go on", [][]byte{y, x}, nil},
		{"a number twice", [][]byte{x, x, y}, bodies("x")},
		{"a number left out", [][]byte{x, frame(2, []byte("z"))}, bodies("x")},
		{"zeros between", [][]byte{x, {0, 0}, y}, bodies("x")},
		{"another mark", [][]byte{x, rawFrame(0, 1, 1, []byte("y"))}, bodies("x")},
		{"a body too long", [][]byte{x, frame(1, make([]byte, 131073))}, bodies("x")},
		{"2^32 - 1 bytes told", [][]byte{x, rawFrame(0xa5, 1, 1<<32-1, []byte("y"))}, bodies("x")},
		{"a head", [][]byte{head}, nil},
		{"a wrong sum of the lead", [][]byte{x, append(bytes.Repeat([]byte{0xa5}, 13), y[13:]...)}, bodies("x")},
	} {
		data := append(bytes.Clone(head), bytes.Join(c.tail, nil)...)
		scans(t, c.what, data, api.JournalScan{Gen: 3, Base: bodies("b"), Records: c.want, Good: len(head) + len(frames(c.want))})
	}
}

// turned gives the data with those of the 32 bits from that one on turned that the mask has.
func turned(data []byte, from int, mask uint32) []byte {
	out := bytes.Clone(data)
	for i := range 32 {
		if bit := from + i; mask>>i&1 == 1 {
			out[bit/8] ^= 1 << (bit % 8)
		}
	}
	return out
}

// masks for a run of at most 32 bits in a piece, of which only that many are left.
func masks(rnd *rand.Rand, left int) []uint32 {
	all := uint32(1<<32 - 1)
	if left < 32 {
		all = 1<<left - 1
	}
	list := []uint32{1, all}
	for range 6 {
		list = append(list, rnd.Uint32()&all|1)
	}
	return list
}

// P2.5: in each piece, from each bit on.
func TestTurnedBits(t *testing.T) {
	rnd := rand.New(rand.NewPCG(3, 4))
	body := []byte("a body of some bytes")
	base, records := [][]byte{body}, [][]byte{body, []byte("z")}
	data := slotOf(0x0102030405060708, base, records)
	start := len(slotOf(1, base, nil))
	second := start + len(frames(records[:1]))
	for _, c := range []struct {
		what     string
		from, to int // bytes of a piece and its sum
		kept     int // records that are told; below 0: no slot
	}{
		{"the head", 0, 24, -1},
		{"the base's lead", 24, 37, -1},
		{"the base's body", 37, start, -1},
		{"the first record's lead", start, start + 13, 0},
		{"the first record's body", start + 13, second, 0},
		{"the second record's lead", second, second + 13, 1},
		{"the second record's body", second + 13, len(data), 1},
	} {
		for bit := c.from * 8; bit < c.to*8; bit++ {
			for _, mask := range masks(rnd, c.to*8-bit) {
				bad := turned(data, bit, mask)
				if c.kept < 0 {
					noSlot(t, c.what, bad)
					continue
				}
				want := api.JournalScan{Gen: 0x0102030405060708, Base: base, Good: start}
				if c.kept == 1 {
					want.Records, want.Good = records[:1], second
				}
				scans(t, c.what, bad, want)
			}
		}
	}
}
