package dimse_test

import (
	"bytes"
	"slices"
	"strings"
	"testing"

	"modality/api"
	"modality/dimse"
)

// echoed is example 1's bytes.
func echoed() []byte {
	return slices.Concat(
		raw(0, 0, 0, 0, 4, 0, 0, 0, 0x38, 0, 0, 0),
		raw(0, 0, 2, 0, 0x12, 0, 0, 0), []byte("1.2.840.10008.1.1\x00"),
		raw(0, 0, 0, 1, 2, 0, 0, 0, 0x30, 0),
		raw(0, 0, 0x10, 1, 2, 0, 0, 0, 7, 0),
		raw(0, 0, 0, 8, 2, 0, 0, 0, 1, 1),
	)
}

// TestEncodeExamples: the document's first and second example.
func TestEncodeExamples(t *testing.T) {
	wantBytes(t, echo(), echoed())
	for _, x := range []struct {
		turn func(c *api.Cmd)
		code api.Errno
		at   int
	}{
		{func(c *api.Cmd) { c.Priority = 1 }, api.ErrDimseUnused, 5},
		{func(c *api.Cmd) { c.Class = "1.02" }, api.ErrDimseValue, 1},
		{func(c *api.Cmd) { c.Class = "" }, api.ErrDimseMissing, 1},
		{func(c *api.Cmd) { c.Field = 0x0031 }, api.ErrDimseField, 0},
	} {
		c := echo()
		x.turn(&c)
		wantUnwritten(t, c, x.code, x.at)
	}
}

// TestEncodeForms: commands byte by byte: each element, its padding, what may be left out.
func TestEncodeForms(t *testing.T) {
	for _, x := range []struct {
		c    api.Cmd
		want []byte
	}{
		{api.Cmd{Field: 0x0001, Class: "1.2", Instance: "1.33", Id: 0xFFFF, Priority: 0x0102, HasData: true},
			set(text(2, "1.2\x00"), us(0x0100, 1), us(0x0110, 0xFFFF), us(0x0700, 0x0102), us(0x0800, 1), text(0x1000, "1.33"))},
		{api.Cmd{Field: 0x0020, Class: "1.22"},
			set(text(2, "1.22"), us(0x0100, 0x20), us(0x0110, 0), us(0x0700, 0), us(0x0800, 0x0101))},
		{api.Cmd{Field: 0x0100, Class: "1", Instance: "2", HasData: true},
			set(text(2, "1\x00"), us(0x0100, 0x0100), us(0x0110, 0), us(0x0800, 1), text(0x1000, "2\x00"))},
		{api.Cmd{Field: 0x0110, Class: "1", Instance: "0", Attrs: []api.Tag{0x12345678, 0}},
			set(text(3, "1\x00"), us(0x0100, 0x0110), us(0x0110, 0), us(0x0800, 0x0101), text(0x1001, "0\x00"), part{0x1005, raw(0x34, 0x12, 0x78, 0x56, 0, 0, 0, 0)})},
		{api.Cmd{Field: 0x0110, Class: "1", Instance: "0", Attrs: []api.Tag{}},
			set(text(3, "1\x00"), us(0x0100, 0x0110), us(0x0110, 0), us(0x0800, 0x0101), text(0x1001, "0\x00"))},
		{api.Cmd{Field: 0x0120, Class: "1.3", Instance: "1.4", Id: 1, HasData: true, Offending: []api.Tag{}},
			set(text(3, "1.3\x00"), us(0x0100, 0x0120), us(0x0110, 1), us(0x0800, 1), text(0x1001, "1.4\x00"))},
		{api.Cmd{Field: 0x0140, Class: "1.3", Instance: "1.4"},
			set(text(2, "1.3\x00"), us(0x0100, 0x0140), us(0x0110, 0), us(0x0800, 0x0101), text(0x1000, "1.4\x00"))},
		{api.Cmd{Field: 0x0140, Class: "1.3"},
			set(text(2, "1.3\x00"), us(0x0100, 0x0140), us(0x0110, 0), us(0x0800, 0x0101))},
		{api.Cmd{Field: 0x0FFF, To: 5},
			set(us(0x0100, 0x0FFF), us(0x0120, 5), us(0x0800, 0x0101))},
		{api.Cmd{Field: 0x0FFF, HasData: true},
			set(us(0x0100, 0x0FFF), us(0x0120, 0), us(0x0800, 1))},
		{api.Cmd{Field: 0x8030},
			set(us(0x0100, 0x8030), us(0x0120, 0), us(0x0800, 0x0101), us(0x0900, 0))},
		{api.Cmd{Field: 0x8120, Class: "1.2.3", Instance: "1.3.44", To: 0x0102, HasData: true, Status: 0x0110, Offending: []api.Tag{0x00400252}, Comment: "no!", ErrorId: 0xA710, Attrs: []api.Tag{1}},
			set(text(2, "1.2.3\x00"), us(0x0100, 0x8120), us(0x0120, 0x0102), us(0x0800, 1), us(0x0900, 0x0110), part{0x0901, raw(0x40, 0, 0x52, 2)}, text(0x0902, "no! "), us(0x0903, 0xA710), text(0x1000, "1.3.44"), part{0x1005, raw(0, 0, 1, 0)})},
	} {
		wantBytes(t, x.c, x.want)
	}
}

// TestFields: of all numbers just the document's are commands, written and read.
func TestFields(t *testing.T) {
	d := readDocument()
	known := 0
	for n := range 1 << 16 {
		c := api.Cmd{Field: uint16(n), Class: "1", Instance: "1"}
		b, err := dimse.EncodeCmd(c)
		_, want := d.rows[c.Field]
		if got := err == nil || !is(err, api.ErrDimseField, 0); got != want || !got && b != nil {
			t.Errorf("P10.2: Field %04XH: %s, %v", n, hex(b), err)
		}
		whole := set(text(2, "1\x00"), text(3, "1\x00"), us(0x0100, c.Field), us(0x0110, 1), us(0x0120, 2), us(0x0700, 3), us(0x0800, 4), us(0x0900, 5), text(0x1000, "1\x00"), text(0x1001, "1\x00"))
		back, err := dimse.DecodeCmd(whole)
		switch {
		case want && (err != nil || back.Field != c.Field):
			t.Errorf("P10.3: Field %04XH: %s, %v", n, shown(back), err)
		case !want && (!is(err, api.ErrDimseField, 0) || !same(back, api.Cmd{})):
			t.Errorf("P10.3: Field %04XH: %s, %v; want ErrDimseField", n, shown(back), err)
		case want:
			known++
		}
	}
	if known != 23 {
		t.Errorf("P10.2, P10.3: %d commands", known)
	}
}

// TestValues: which UIDs and comments may be, written and read.
func TestValues(t *testing.T) {
	ofAnswer := func(put func(c *api.Cmd)) api.Cmd {
		c := api.Cmd{Field: 0x8020}
		put(&c)
		return c
	}
	for _, x := range []struct {
		value string
		ok    bool
	}{
		{"0", true}, {"1.0.2", true}, {"1." + strings.Repeat("2", 62), true},
		{"1." + strings.Repeat("2", 63), false}, {"1.02", false}, {"00", false}, {"1..2", false}, {".1", false}, {"1.", false}, {".", false},
		{"1.2a", false}, {" 1.2", false}, {"1.2 ", false}, {"1.2\x00", false}, {"\x00", false}, {" ", false}, {`1.2\1.3`, false}, {"1\xFF", false}, {strings.Repeat("1", 70000), false},
	} {
		class := ofAnswer(func(c *api.Cmd) { c.Class = x.value })
		instance := ofAnswer(func(c *api.Cmd) { c.Instance = x.value })
		if !x.ok {
			wantUnwritten(t, class, api.ErrDimseValue, 1)
			wantUnwritten(t, instance, api.ErrDimseValue, 2)
			continue
		}
		wantBytes(t, class, readDocument().encode(class).bytes)
		wantBytes(t, instance, readDocument().encode(instance).bytes)
	}
	for _, x := range []struct {
		value string
		ok    bool
	}{
		{"x", true}, {" x", true}, {"~", true}, {"!", true}, {"a b", true}, {strings.Repeat("x", 64), true}, {strings.Repeat(" ", 63) + "x", true},
		{strings.Repeat("x", 65), false}, {"x ", false}, {" ", false}, {strings.Repeat(" ", 64), false}, {`\`, false}, {`a\b`, false}, {"a\x1Fb", false}, {"a\x7Fb", false}, {"\x00", false}, {"x\x00", false},
		{"é", false}, {"\xFF", false}, {"a\nb", false}, {strings.Repeat("x", 1<<20), false},
	} {
		comment := ofAnswer(func(c *api.Cmd) { c.Comment = x.value })
		if !x.ok {
			wantUnwritten(t, comment, api.ErrDimseValue, 9)
			continue
		}
		wantBytes(t, comment, readDocument().encode(comment).bytes)
	}
}

// TestCommentBytes: every byte, alone, ahead of and behind another, written and read.
func TestCommentBytes(t *testing.T) {
	for n := range 256 {
		s := string([]byte{byte(n)})
		for _, comment := range []string{s, s + "x", "x" + s + "y", "x" + s} {
			c := api.Cmd{Field: 0x8030, Comment: comment}
			b, err := dimse.EncodeCmd(c)
			may := n >= 32 && n <= 126 && n != '\\' && !strings.HasSuffix(comment, " ")
			if may != (err == nil) || !may && !is(err, api.ErrDimseValue, 9) {
				t.Errorf("P10.1: a comment %q: %s, %v", comment, hex(b), err)
			}
		}
	}
}

// product calls try with every mix of these values of the fields.
func product(try func(c api.Cmd)) {
	uids, bits := []string{"", "1.2", "1.02"}, []uint16{0, 0x0101}
	lists := [][]api.Tag{nil, {}, {0x00100020, 0}}
	var c api.Cmd
	for _, c.Class = range uids {
		for _, c.Instance = range uids {
			for _, c.Id = range bits {
				for _, c.To = range bits {
					for _, c.Priority = range bits {
						for _, c.HasData = range []bool{false, true} {
							for _, c.Status = range bits {
								for _, c.Comment = range []string{"", "x", "x "} {
									for _, c.ErrorId = range bits {
										for _, c.Offending = range lists {
											c.Attrs = lists[(len(c.Offending)+len(c.Class)+int(c.Id))%3]
											try(c)
											c.Attrs = nil
											try(c)
										}
									}
								}
							}
						}
					}
				}
			}
		}
	}
}

// TestEncodeAll: every command with every mix of fields that are zero, right and wrong, against the second writer.
func TestEncodeAll(t *testing.T) {
	d := readDocument()
	fields := []uint16{0, 0x0031, 0x8FFF}
	for field := range d.rows {
		fields = append(fields, field)
	}
	count := map[api.Errno]int{}
	product(func(c api.Cmd) {
		for _, c.Field = range fields {
			want := d.encode(c)
			b, err := dimse.EncodeCmd(c)
			if !bytes.Equal(b, want.bytes) || !is(err, want.code, want.at) || (b == nil) != (err != nil) {
				t.Fatalf("P10.2: %s: %s, %v; want %s, %d at %d", shown(c), hex(b), err, hex(want.bytes), want.code, want.at)
			}
			count[want.code]++
			if err != nil {
				continue
			}
			if back, err := dimse.DecodeCmd(b); err != nil || !same(back, plain(c)) {
				t.Fatalf("P10.7: %s: %s, %v", shown(c), shown(back), err)
			}
		}
	})
	for _, code := range []api.Errno{api.OK, api.ErrDimseField, api.ErrDimseUnused, api.ErrDimseMissing, api.ErrDimseValue} {
		if count[code] < 100 {
			t.Errorf("the test has %d commands with %d", count[code], code)
		}
	}
}

// TestEncodeLong: MaxCommand bytes and one tag more, in each list, and lists that are far too long.
func TestEncodeLong(t *testing.T) {
	get := func(tags int) api.Cmd {
		return api.Cmd{Field: 0x0110, Class: "1.222", Instance: "1.3", Attrs: make([]api.Tag, tags)}
	}
	if b := mustEncode(t, get(1005)); len(b) != api.MaxCommand {
		t.Fatalf("the test's command has %d bytes", len(b))
	}
	wantBytes(t, get(1005), readDocument().encode(get(1005)).bytes)
	wantUnwritten(t, get(1006), api.ErrDimseLong, api.MaxCommand)
	for _, tags := range []int{1023, 1024, 1025, 1026, 5000, 1 << 24} {
		wantUnwritten(t, get(tags), api.ErrDimseLong, api.MaxCommand)
		wantUnwritten(t, api.Cmd{Field: 0x8110, Offending: make([]api.Tag, tags)}, api.ErrDimseLong, api.MaxCommand)
		wantUnwritten(t, api.Cmd{Field: 0x8110, Attrs: make([]api.Tag, tags)}, api.ErrDimseLong, api.MaxCommand)
		wantUnwritten(t, api.Cmd{Field: 0x0030, Class: "1", Offending: make([]api.Tag, tags)}, api.ErrDimseUnused, 8)
		wantUnwritten(t, api.Cmd{Field: 0x8110, Offending: make([]api.Tag, tags), Comment: " "}, api.ErrDimseValue, 9)
	}
	d := readDocument()
	for offending := 490; offending < 530; offending++ {
		for attrs := 480; attrs < 530; attrs += 3 {
			c := api.Cmd{Field: 0x8110, Offending: make([]api.Tag, offending), Attrs: make([]api.Tag, attrs), Comment: "odd"}
			want := d.encode(c)
			if b, err := dimse.EncodeCmd(c); !bytes.Equal(b, want.bytes) || !is(err, want.code, want.at) {
				t.Fatalf("P10.2: %d and %d tags: %d bytes, %v; want %d bytes, %d at %d", offending, attrs, len(b), err, len(want.bytes), want.code, want.at)
			}
		}
	}
}
