package dataset_test

import (
	"bytes"
	"errors"
	"slices"
	"testing"

	"modality/api"
	"modality/dataset"
)

// refusals calls every face with what it refuses, each reason once.
func refusals() map[string]error {
	list := map[string]error{}
	_, list["Encode, syntax"] = dataset.Encode(nil, 0)
	_, list["Encode, nodes"] = dataset.Encode([]api.Node{ct, ct}, api.Implicit)
	_, list["Encode, long"] = dataset.Encode(tooLong(2), api.Implicit)
	_, list["Size, syntax"] = dataset.Size(nil, 0)
	_, list["Size, nodes"] = dataset.Size([]api.Node{ct, ct}, api.Implicit)
	_, list["Size, long"] = dataset.Size(tooLong(2), api.Implicit)
	_, list["Decode, syntax"] = dataset.Decode(nil, 0)
	_, list["Decode, long"] = dataset.Decode(make([]byte, 1<<20+1), api.Implicit)
	_, list["Decode, short"] = dataset.Decode(make([]byte, 1), api.Implicit)
	_, list["Decode, tag"] = dataset.Decode(make([]byte, 8), api.Implicit)
	_, list["Implied"] = dataset.Implied([]api.Node{ct, ct})
	return list
}

// TestFaults: each refusal is a new fault of this layer, and what is behind it is a number of this layer or a new fault of layer 3, so that nobody can change another's.
func TestFaults(t *testing.T) {
	seen := map[*api.Fault]string{}
	for range 2 {
		for call, err := range refusals() {
			f, ok := err.(*api.Fault)
			var number api.Errno
			if !ok || !errors.As(err, &number) || f.Layer != "dataset" || number != api.ErrSet && (number < 120 || number > 139) {
				t.Errorf("DOC.md, Errors: %s: %v", call, err)
				continue
			}
			for f != nil {
				if seen[f] != "" {
					t.Errorf("DOC.md, Errors: %s and %s give one fault", call, seen[f])
				}
				seen[f] = call
				behind, _ := f.Err.(*api.Fault)
				f.Layer, f.At, f.Err = "changed", -1, nil
				f = behind
			}
		}
	}
}

// memorySet has something of everything: what is known, what is not, items, padding.
func memorySet() []api.Node {
	return []api.Node{element(codeTag, api.VRCS, "CT1"), element(creatorTag, api.VRUN, "ab"), sequence(privateTag, 1), item(1), element(privateTag, api.VRLO, "x"), sequence(stepsTag, 1), item(1), element(codeTag, api.VRCS, "MR")}
}

// TestNodesMemory: the nodes that are handed in stay as they are, spare room included, and what is handed out is new.
func TestNodesMemory(t *testing.T) {
	room := append(memorySet(), ct, ct)
	before := slices.Clone(room)
	nodes := room[:len(room)-2]
	for _, s := range bothSyntaxes {
		first, err := dataset.Encode(nodes, s)
		if err != nil {
			t.Fatal(err)
		}
		kept := bytes.Clone(first)
		second, _ := dataset.Encode(nodes, s)
		fill(first[:cap(first)], 0xAA)
		if !bytes.Equal(second, kept) {
			t.Errorf("DOC.md, Memory: two answers of Encode share memory")
		}
		if _, err := dataset.Size(nodes, s); err != nil {
			t.Fatal(err)
		}
	}
	first, err := dataset.Implied(nodes)
	if err != nil {
		t.Fatal(err)
	}
	kept := slices.Clone(first)
	second, _ := dataset.Implied(nodes)
	fill(first[:cap(first)], api.Node{Tag: 1})
	if !slices.Equal(second, kept) {
		t.Errorf("DOC.md, Memory: two answers of Implied share memory")
	}
	if !slices.Equal(room, before) {
		t.Errorf("DOC.md, Memory: the nodes are now %s", shown(room))
	}
	if got, err := dataset.Implied(room[:0]); got != nil || err != nil {
		t.Errorf("P6.4: an empty list: %v, %v", got, err)
	}
}

// TestBytesMemory: the bytes that are handed in stay as they are, spare room included, and the nodes do not hang on them.
func TestBytesMemory(t *testing.T) {
	for _, s := range bothSyntaxes {
		want := memorySet()
		if s == api.Implicit {
			want = modelImplied(want)
		}
		whole := inOneForm(memorySet(), s)
		size := len(whole)
		room := append(whole, "behind"...)
		before := bytes.Clone(room)
		first, err := dataset.Decode(room[:size], s)
		if err != nil || !bytes.Equal(room, before) {
			t.Fatalf("DOC.md, Memory: %v, the bytes are now % X", err, room)
		}
		second, _ := dataset.Decode(room[:size], s)
		fill(first[:cap(first)], api.Node{Tag: 1})
		fill(room, 0xAA)
		if !slices.Equal(second, want) {
			t.Errorf("DOC.md, Memory: the nodes are now %s", shown(second))
		}
	}
}

func fill[T any](list []T, with T) {
	for i := range list {
		list[i] = with
	}
}
