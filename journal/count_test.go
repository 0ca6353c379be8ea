package journal

import (
	"math"
	"testing"

	"modality/api"
	"modality/disk"
)

// No disk has room for so many records: the counter is set by hand.
func TestLastNumber(t *testing.T) {
	d, err := disk.New(api.DiskConfig{Blocks: 400, Names: 2})
	if err != nil {
		t.Fatal(err)
	}
	j, _, _, err := Open(d)
	if err != nil {
		t.Fatal(err)
	}
	j.records = math.MaxUint32 - 1
	if err := j.Commit([]byte("the last")); err != nil {
		t.Fatal(err)
	}
	size := j.size
	for _, c := range []struct {
		body []byte
		want api.Errno
	}{{nil, api.ErrJournalCount}, {make([]byte, api.MaxRecord+1), api.ErrJournalLong}} {
		f, ok := j.Commit(c.body).(*api.Fault)
		if !ok || *f != (api.Fault{Layer: "journal", Err: c.want}) {
			t.Fatalf("%v, not %d", f, c.want)
		}
	}
	if j.Count() != math.MaxUint32 || j.State().Records != math.MaxUint32 || j.broken || j.size != size {
		t.Fatalf("%+v", j.State())
	}
	if n, _ := d.Size(slotA); n != size {
		t.Fatalf("%d bytes, not %d", n, size)
	}
	if err := j.Compact(nil); err != nil {
		t.Fatal(err)
	}
	if err := j.Commit(nil); err != nil || j.Count() != 1 {
		t.Fatal(err, j.Count())
	}
}
