package scu_test

import (
	"strings"
	"testing"

	"modality/api"
	"modality/charset"
	"modality/dataset"
	"modality/dict"
	"modality/dimse"
)

// withSet are the requests that have a data set, each with the context on which it goes.
func withSet() map[int]uint8 {
	return map[int]uint8{api.DoFind: 3, api.DoCreate: 5, api.DoSet: 5}
}

func faultOf(layer string, at int, reason error) *api.Fault {
	return &api.Fault{Layer: layer, At: at, Err: reason}
}

// refusesData: a data set is refused so by each request that has one, and nothing has changed.
func refusesData(t *testing.T, what string, nodes []api.Node, cs, uid string, at int, reason error) {
	t.Helper()
	for k := range withSet() {
		s := associated(t, 64)
		d := api.ScuDo{Kind: k, Id: 7, UID: uid, Nodes: nodes, Charset: cs}
		if outs, err := s.Do(d); outs != nil || !isFault(err, at, reason) {
			t.Errorf("P17.2: %s: kind %d: %s, %v", what, k, shown(outs), err)
		}
		isIn(t, "P17.2: "+what, s, api.ScuState{Sta: 6, Contexts: agreed(), Most: 64})
	}
}

// TestDataRefused: what is wrong with a data set, and in which order it is looked at (P17.2).
func TestDataRefused(t *testing.T) {
	form := []api.Node{{Tag: api.TagPatientName, VR: api.VRPN, N: -1}}
	twice := list(name("X"), name("Y"))
	refusesData(t, "no list of nodes", form, "", "1.2", 1, faultOf("charset", 0, api.ErrCharNodes))
	refusesData(t, "no list of nodes, and no set", form, "no set", "no uid", 1, faultOf("charset", 0, api.ErrCharNodes))
	refusesData(t, "a set in the list", list(el(api.TagCharset, "ISO_IR 100"), name("X")), "", "1.2", 1, faultOf("charset", 0, api.ErrCharNodes))
	refusesData(t, "no set", list(name("X"), el(api.TagPatientID, "7")), "no set", "1.2", 1, faultOf("charset", 2, api.ErrCharTerm))
	refusesData(t, "no set, and no data set", twice, "no set", "no uid", 1, faultOf("charset", 2, api.ErrCharTerm))
	refusesData(t, "no text", list(el(api.TagModality, "CT"), name("\xFF")), "", "no uid", 1, faultOf("charset", 1, api.ErrCharRune))
	refusesData(t, "no data set", twice, "", "1.2", 2, faultOf("dataset", 1, faultOf("dict", 1, api.ErrSet)))
	refusesData(t, "no data set, and no UID", twice, "ISO_IR 100", "no uid", 2, faultOf("dataset", 2, faultOf("dict", 2, api.ErrSet)))
	refusesData(t, "a VR that is another's", []api.Node{{Tag: api.TagModality, VR: api.VRLO}}, "", "1.2", 2, faultOf("dataset", 0, faultOf("dict", 0, api.ErrSet)))
}

// TestUIDs: what dimse refuses is told at 0, behind all else (P17.2).
func TestUIDs(t *testing.T) {
	for _, x := range []struct {
		d      api.ScuDo
		at     int
		reason api.Errno
	}{
		{create(7, "1.02"), 2, api.ErrDimseValue},
		{create(7, "x", name("Y")), 2, api.ErrDimseValue},
		{set(7, ""), 2, api.ErrDimseMissing},
		{set(7, "1.2 "), 2, api.ErrDimseValue},
		{get(7, ""), 2, api.ErrDimseMissing},
		{get(7, "1..2"), 2, api.ErrDimseValue},
		{get(7, strings.Repeat("1", 65)), 2, api.ErrDimseValue},
		{get(7, "1.2", make([]api.Tag, 5000)...), api.MaxCommand, api.ErrDimseLong},
	} {
		s := associated(t, 64)
		if outs, err := s.Do(x.d); outs != nil || !isFault(err, 0, faultOf("dimse", x.at, x.reason)) {
			t.Errorf("P17.2: %s: %s, %v", shown(x.d), shown(outs), err)
		}
		isIn(t, "P17.2: dimse refuses", s, api.ScuState{Sta: 6, Contexts: agreed(), Most: 64})
	}
	s := associated(t, 64)
	m := withData(api.Message{Context: 5, Cmd: api.Cmd{Field: 0x140, Class: api.UIDPerform, Id: 7}})
	gives(t, "P17.2: an N-CREATE without a UID", do(t, s, create(7, "")), sentAs(m, 64)...)
}

// TestAttrs: as many tags as a command has room for (P17.2).
func TestAttrs(t *testing.T) {
	bare, err := dimse.EncodeCmd(api.Cmd{Field: 0x110, Class: api.UIDRetrieve, Instance: "1.2", Id: 7})
	if err != nil {
		t.Fatal(err)
	}
	room := (4096 - len(bare) - 8) / 4
	tags := make([]api.Tag, room)
	for i := range tags {
		tags[i] = api.Tag(i * 0x10001)
	}
	s := associated(t, 64)
	m := api.Message{Context: 7, Cmd: api.Cmd{Field: 0x110, Class: api.UIDRetrieve, Instance: "1.2", Id: 7, Attrs: tags}}
	gives(t, "P17.2: many tags", do(t, s, get(7, "1.2", tags...)), sentAs(m, 64)...)
	if _, err := s.Do(get(8, "1.2", append(tags, 1)...)); !isFault(err, 0, faultOf("dimse", api.MaxCommand, api.ErrDimseLong)) {
		t.Errorf("P17.2: a tag too many: %v", err)
	}
}

// filled is a data set that has just so many bytes in a syntax.
func filled(t *testing.T, size int, x api.Syntax) []api.Node {
	t.Helper()
	nodes := list(el(0x00081030, strings.Repeat("a", 40000)), el(api.TagPatientName, ""), el(api.TagComments, ""))
	b, err := dataset.Encode(nodes, x)
	if err != nil {
		t.Fatal(err)
	}
	nodes[2].Value = strings.Repeat("b", size-len(b))
	return nodes
}

// TestDataSize: MaxData bytes in the context's syntax go out, two more are refused (P17.2).
func TestDataSize(t *testing.T) {
	for k, context := range withSet() {
		x := contextOf(context).Syntax
		s := associated(t, 16384)
		d := api.ScuDo{Kind: k, Id: 7, UID: "1.2", Nodes: filled(t, 65536, x)}
		outs := do(t, s, d)
		size := 0
		for _, o := range outs {
			size += len(o.Data) - 12
		}
		if size <= 65536 || s.State().Waiting == nil {
			t.Errorf("P17.2: kind %d: MaxData bytes: %d go out", k, size)
		}
		d.Nodes = filled(t, 65538, x)
		refusesDataAt3(t, d)
		d.UID = "no uid"
		refusesDataAt3(t, d)
		d.Nodes, d.Charset, d.UID = filled(t, 65536, x), "ISO_IR 100", "1.2"
		refusesDataAt3(t, d)
	}
}

func refusesDataAt3(t *testing.T, d api.ScuDo) {
	t.Helper()
	s := associated(t, 64)
	if outs, err := s.Do(d); outs != nil || !isFault(err, 3, api.ErrScuData) {
		t.Errorf("P17.2: kind %d: too many bytes: %s, %v", d.Kind, shown(outs), err)
	}
	isIn(t, "P17.2: too many bytes", s, api.ScuState{Sta: 6, Contexts: agreed(), Most: 64})
}

// TestDataForm: a data set goes out in the character set that is asked for, and in the context's syntax (P17.2).
func TestDataForm(t *testing.T) {
	nodes := list(name("Müller^Ł"), el(api.TagPatientID, "7"), seq(api.TagSteps, holding(el(api.TagStepDesc, "é"))))
	for k, context := range withSet() {
		for _, cs := range []string{"", "ISO_IR 100", "ISO_IR 101", "ISO_IR 192", `\ISO 2022 IR 101`, `ISO 2022 IR 100\ISO 2022 IR 101`} {
			s := associated(t, 100)
			outs := do(t, s, api.ScuDo{Kind: k, Id: 7, UID: "1.2", Nodes: nodes, Charset: cs})
			want, err := charset.Express(nodes, cs)
			if err != nil {
				t.Fatal(err)
			}
			field := map[int]uint16{api.DoFind: 0x20, api.DoCreate: 0x140, api.DoSet: 0x120}[k]
			m := api.Message{Context: context, Cmd: api.Cmd{Field: field, Class: contextOf(context).Class, Id: 7}}
			if k != api.DoFind {
				m.Cmd.Instance = "1.2"
			}
			gives(t, "P17.2: in "+cs, outs, sentAs(withData(m, want...), 100)...)
			back, err := dataset.Decode(withData(m, want...).Data, contextOf(context).Syntax)
			if err != nil {
				t.Fatal(err)
			}
			told, _ := dict.Value(back, api.TagCharset)
			if like := map[string]string{"": "ISO_IR 192", "ISO_IR 100": "ISO_IR 192", "ISO_IR 101": "ISO_IR 101", `\ISO 2022 IR 101`: `ISO 2022 IR 6\ISO 2022 IR 101`}[cs]; like != "" && told != like {
				t.Errorf("P17.2: in %q: told as %q", cs, told)
			}
		}
	}
}

// TestEmptySet: a data set without elements goes out as one, not as none (P17.2).
func TestEmptySet(t *testing.T) {
	s := associated(t, 64)
	m := withData(api.Message{Context: 3, Cmd: api.Cmd{Field: 0x20, Class: api.UIDWorklist, Id: 7}})
	want := sentAs(m, 64)
	if last := want[len(want)-1].Data; !same(last, []byte{4, 0, 0, 0, 0, 6, 0, 0, 0, 2, 3, 2}) {
		t.Fatalf("the test's own bytes: %x", last)
	}
	gives(t, "P17.2: no nodes", do(t, s, find(7)), want...)
	gives(t, "P17.2: no nodes", do(t, associated(t, 64), api.ScuDo{Kind: api.DoFind, Id: 7, Nodes: []api.Node{}}), want...)
}
