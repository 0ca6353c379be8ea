package store

import (
	"math"
	"reflect"
	"testing"
	"unsafe"

	"modality/api"
	"modality/disk"
)

// spend leaves the journal no number for a record. No disk has room for so many records, and no face sets the counter: it is set by hand.
func spend(t *testing.T, s *Store) {
	t.Helper()
	field := reflect.ValueOf(s.journal).Elem().FieldByName("records")
	if !field.IsValid() || field.Kind() != reflect.Uint32 {
		t.Fatal("the journal's counter is elsewhere")
	}
	*(*uint32)(unsafe.Pointer(field.UnsafeAddr())) = math.MaxUint32
	if f, ok := s.journal.Commit(nil).(*api.Fault); !ok || f.Err != api.ErrJournalCount {
		t.Fatalf("the journal still has a number: %v", f)
	}
}

func one(control string) api.Mutation {
	return api.Mutation{Kind: api.MStep, Control: control, Steps: []api.Step{{
		ID: "A" + control, Procedure: "P", Study: "1.2", PatientName: "X^Y", PatientID: "7", Modality: "CT", Station: "CT1", Date: "20260701", Time: "083000", Status: api.StepScheduled,
	}}}
}

// TestLastNumber: P12.9: without a number a base is taken, and the record is committed behind it.
func TestLastNumber(t *testing.T) {
	d, err := disk.New(api.DiskConfig{Blocks: 400, Names: 2})
	if err != nil {
		t.Fatal(err)
	}
	s, err := Open(d, 10)
	if err != nil || s.Put(one("M")) != nil {
		t.Fatal(err)
	}
	spend(t, s)
	if err := s.Put(one("N")); err != nil {
		t.Fatalf("P12.9: %v", err)
	}
	if j := s.journal.State(); j.Gen != 2 || j.Base != 2 || j.Records != 1 {
		t.Fatalf("P12.9: %+v", j)
	}
	if st := s.State(); st.Control != "N" || len(st.Steps) != 2 {
		t.Fatalf("P12.9: %+v", st)
	}
	spend(t, s)
	d.Quota(0)
	before := s.State()
	s.rows.steps["B"] = api.Step{ID: "B", Desc: string(make([]byte, 1000))} // a row for whose base there is no room
	if f, ok := s.Put(one("O")).(*api.Fault); !ok || f.Err != api.ErrStoreFull || f.At != 0 {
		t.Fatalf("P12.9: %v", f)
	}
	delete(s.rows.steps, "B")
	if !reflect.DeepEqual(s.State(), before) || s.off {
		t.Fatalf("P12.14: %+v", s.State())
	}
	if err := s.Compact(); err != nil || s.journal.Count() != 0 {
		t.Fatalf("P12.11: %v, %d records", err, s.journal.Count())
	}
}

// TestBaseClears: a base's beginning takes all rows away, though no journal has rows ahead of it.
func TestBaseClears(t *testing.T) {
	rows := newTables()
	rows.turn(bodyOf(one("M")))
	rows.turn(perfBody{perf: api.Perf{UID: "1.1"}})
	rows.turn(baseBody{"N"})
	if st := rows.state(); !reflect.DeepEqual(st, api.State{Control: "N"}) {
		t.Fatalf("Ways: %+v", st)
	}
}
