package dimse_test

import (
	"bytes"
	"encoding/binary"
	"fmt"
	"reflect"
	"testing"

	"modality/api"
	"modality/dimse"
)

// is tells whether an error is this layer's fault with this number at this place; OK: no error.
func is(err error, code api.Errno, at int) bool {
	if code == api.OK {
		return err == nil
	}
	f, ok := err.(*api.Fault)
	return ok && f != nil && f.Layer == "dimse" && f.At == at && f.Err == error(code)
}

func same(a, b any) bool { return reflect.DeepEqual(a, b) }

// hex tells the beginning of bytes.
func hex(b []byte) string {
	if len(b) > 200 {
		return fmt.Sprintf("%d bytes % x ..", len(b), b[:200])
	}
	return fmt.Sprintf("%d bytes % x", len(b), b)
}

// shown tells the beginning of anything.
func shown(x any) string { return fmt.Sprintf("%.600s", fmt.Sprintf("%+v", x)) }

func raw(b ...byte) []byte { return b }

func echo() api.Cmd { return api.Cmd{Field: 0x0030, Class: "1.2.840.10008.1.1", Id: 7} }

func find() api.Cmd { return api.Cmd{Field: 0x0020, Class: "1.2", Id: 8, HasData: true} }

func cancel(hasData bool) api.Cmd { return api.Cmd{Field: 0x0FFF, To: 8, HasData: hasData} }

// answer is an answer that has something in every field that answers use.
func answer() api.Cmd {
	return api.Cmd{
		Field: 0x8120, Class: "1.2.3", Instance: "1.3.44", To: 0x0102, HasData: true, Status: 0x0110,
		Offending: []api.Tag{0x00400252, 0xFFFEE000, 0}, Comment: "no", ErrorId: 0xA710, Attrs: []api.Tag{0x00100020},
	}
}

// part is an element of a command set.
type part struct {
	number uint16
	value  []byte
}

// lay lays elements down as they stand, with no group length ahead.
func lay(parts ...part) (b []byte) {
	for _, p := range parts {
		b = binary.LittleEndian.AppendUint32(b, uint32(p.number)<<16)
		b = binary.LittleEndian.AppendUint32(b, uint32(len(p.value)))
		b = append(b, p.value...)
	}
	return b
}

// grouped puts the group length ahead of the bytes of elements.
func grouped(b []byte) []byte {
	return append(lay(part{0, binary.LittleEndian.AppendUint32(nil, uint32(len(b)))}), b...)
}

// set lays elements down with their group length.
func set(parts ...part) []byte { return grouped(lay(parts...)) }

// us is an element with a number of two bytes.
func us(number, value uint16) part {
	return part{number, binary.LittleEndian.AppendUint16(nil, value)}
}

func text(number uint16, value string) part { return part{number, []byte(value)} }

// mustEncode lays a command down that may be.
func mustEncode(t testing.TB, c api.Cmd) []byte {
	t.Helper()
	b, err := dimse.EncodeCmd(c)
	if err != nil {
		t.Fatalf("P10.2: %s: %v", shown(c), err)
	}
	return b
}

// wantBytes fails if a command is not laid down as it must be, or if that is not read as the command.
func wantBytes(t testing.TB, c api.Cmd, want []byte) {
	t.Helper()
	if b, err := dimse.EncodeCmd(c); err != nil || !bytes.Equal(b, want) {
		t.Fatalf("P10.2: %s: %s, %v; want %s", shown(c), hex(b), err, hex(want))
	}
	if back, err := dimse.DecodeCmd(want); err != nil || !same(back, plain(c)) {
		t.Fatalf("P10.7: %s: %s, %v; want %s", hex(want), shown(back), err, shown(c))
	}
}

// plain is a command whose lists without elements are nil.
func plain(c api.Cmd) api.Cmd {
	c.Offending = append([]api.Tag(nil), c.Offending...)
	c.Attrs = append([]api.Tag(nil), c.Attrs...)
	return c
}

// wantUnwritten fails if a command is not refused as it must be.
func wantUnwritten(t testing.TB, c api.Cmd, code api.Errno, at int) {
	t.Helper()
	if b, err := dimse.EncodeCmd(c); b != nil || !is(err, code, at) {
		t.Errorf("P10.2: %s: %s, %v; want %d at %d", shown(c), hex(b), err, code, at)
	}
}

// wantCmd fails if bytes are not read as they must be, or if what is read is not laid down and read again as the same.
func wantCmd(t testing.TB, b []byte, want api.Cmd) {
	t.Helper()
	c, err := dimse.DecodeCmd(b)
	if err != nil || !same(c, want) {
		t.Errorf("P10.3: %s: %s, %v; want %s", hex(b), shown(c), err, shown(want))
		return
	}
	again, err := dimse.EncodeCmd(c)
	if err != nil {
		t.Errorf("P10.7: %s, which was read, is not laid down: %v", shown(c), err)
		return
	}
	if c, err = dimse.DecodeCmd(again); err != nil || !same(c, want) {
		t.Errorf("P10.7: %s, read, laid down and read: %s, %v", shown(want), shown(c), err)
	}
}

// wantUnread fails if bytes are not refused as they must be.
func wantUnread(t testing.TB, b []byte, code api.Errno, at int) {
	t.Helper()
	if c, err := dimse.DecodeCmd(b); !same(c, api.Cmd{}) || !is(err, code, at) {
		t.Errorf("P10.3: %s: %s, %v; want %d at %d", hex(b), shown(c), err, code, at)
	}
}
