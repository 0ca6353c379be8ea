package engine_test

import (
	"reflect"
	"slices"
	"testing"

	"modality/api"
	"modality/engine"
)

// lists gives every list of a script, with its spare room.
func lists(s *api.Script) []reflect.Value {
	var all []reflect.Value
	var walk func(v reflect.Value)
	walk = func(v reflect.Value) {
		switch v.Kind() {
		case reflect.Slice:
			all = append(all, v.Slice(0, v.Cap()))
			for i := range v.Len() {
				walk(v.Index(i))
			}
		case reflect.Struct:
			for i := range v.NumField() {
				walk(v.Field(i))
			}
		}
	}
	walk(reflect.ValueOf(s).Elem())
	return all
}

// share tells whether two lists have memory in common.
func share(a, b reflect.Value) bool {
	if a.Len() == 0 || b.Len() == 0 {
		return false
	}
	begin := func(v reflect.Value) uintptr { return v.Pointer() }
	end := func(v reflect.Value) uintptr { return v.Pointer() + uintptr(v.Len())*v.Type().Elem().Size() }
	return begin(a) < end(b) && begin(b) < end(a)
}

// fullText has every kind of list, twice.
func fullText() string {
	lines := []string{head, "caller A", "caller B", scanner, "scanner 1 CT1 RIS 0 10 explicit,implicit verify,worklist,perform,retrieve"}
	for range 2 {
		lines = append(lines, withSet(`find 0 1 ""`, performed("A", "X", "")), "get 1 2 1.2 PatientID (0010,0010)", "data 5 0102", "feed 0102", "fuse 1 1:2 2:3 dir:1", "power 1:2")
	}
	return joined(lines...)
}

// TestParseMemory: no two lists of one script, and of no two, share any.
func TestParseMemory(t *testing.T) {
	a, _ := engine.Parse(fullText())
	b, _ := engine.Parse(fullText())
	all := append(lists(&a), lists(&b)...)
	if len(all) < 40 {
		t.Fatalf("the test's own text has %d lists", len(all))
	}
	for i, x := range all {
		for _, y := range all[:i] {
			if share(x, y) {
				t.Fatalf("DOC.md, Memory: %v and %v", x, y)
			}
		}
	}
}

// TestPrintMemory: what is handed in stays as it is, spare room included.
func TestPrintMemory(t *testing.T) {
	make := func() api.Script {
		s, err := engine.Parse(fullText())
		if err != nil {
			t.Fatal(err)
		}
		s.Config.Callers = append(slices.Grow(s.Config.Callers[:2:2], 5), "C")[:2]
		for i := range s.Haps {
			h := &s.Haps[i]
			h.Do.Nodes = append(slices.Grow(h.Do.Nodes[:len(h.Do.Nodes):len(h.Do.Nodes)], 5), api.Node{Tag: 5})[:len(h.Do.Nodes)]
			h.Do.Attrs = append(slices.Grow(h.Do.Attrs[:len(h.Do.Attrs):len(h.Do.Attrs)], 5), 7)[:len(h.Do.Attrs)]
			h.Act.Data = append(slices.Grow(h.Act.Data[:len(h.Act.Data):len(h.Act.Data)], 5), 9)[:len(h.Act.Data)]
			h.Act.Keeps.Files = append(slices.Grow(h.Act.Keeps.Files[:len(h.Act.Keeps.Files):len(h.Act.Keeps.Files)], 5), api.DiskKeep{Id: 9})[:len(h.Act.Keeps.Files)]
		}
		return s
	}
	got, want := make(), make()
	first, err := engine.Print(got)
	if err != nil {
		t.Fatal(err)
	}
	got.Haps[1].Text, want.Haps[1].Text = "x", "x"
	engine.Print(got)
	got.Haps[1].Text, want.Haps[1].Text = "", ""
	if second, _ := engine.Print(got); second != first {
		t.Errorf("DOC.md, One answer: %q, then %q", first, second)
	}
	a, b := lists(&got), lists(&want)
	for i := range a {
		if !same(a[i].Interface(), b[i].Interface()) {
			t.Errorf("DOC.md, Memory: %v, not %v", a[i], b[i])
		}
	}
}

// TestTellAgain: a text's report hangs on the text alone.
func TestTellAgain(t *testing.T) {
	text := fullText()
	first := engine.Tell(text)
	for range 20 {
		if engine.Tell(text) != first {
			t.Fatal("P18.6")
		}
	}
}
