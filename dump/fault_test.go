package dump_test

import (
	"errors"
	"slices"
	"strings"
	"testing"

	"modality/api"
	"modality/dump"
)

// refusals calls every face with what it refuses, each reason once.
func refusals() map[string]error {
	faults := map[string]error{}
	_, faults["Print, nodes"] = dump.Print(list(item(0)))
	_, faults["Print, long"] = dump.Print(longSet(1048577))
	_, faults["Parse, long"] = dump.Parse(strings.Repeat(" ", 1048577))
	_, faults["Parse, token"] = dump.Parse(";")
	_, faults["Parse, form"] = dump.Parse("}")
	_, faults["Parse, tag"] = dump.Parse("Nonsense")
	_, faults["Parse, VR"] = dump.Parse("Rows SS 5")
	_, faults["Parse, order"] = dump.Parse("Rows 5 Rows 5")
	_, faults["Parse, value"] = dump.Parse("Rows 65536")
	_, faults["Parse, deep"] = dump.Parse(strings.Repeat("(0040,0100){item{", 5))
	return faults
}

// TestFaults: each refusal is a new fault of this layer, and what is behind it is a number of this layer or a new fault of layer 3, so that nobody can change another's.
func TestFaults(t *testing.T) {
	seen := map[*api.Fault]string{}
	for range 2 {
		for call, err := range refusals() {
			f, ok := err.(*api.Fault)
			var number api.Errno
			if !ok || !errors.As(err, &number) || f.Layer != "dump" || number != api.ErrSet && (number < 140 || number > 147) {
				t.Errorf("DOC.md, Errors: %s: %v", call, err)
				continue
			}
			for f != nil {
				if seen[f] != "" {
					t.Errorf("DOC.md, Errors: %s and %s give one fault", call, seen[f])
				}
				seen[f] = call
				behind, _ := f.Err.(*api.Fault)
				f.Layer, f.At, f.Err = "changed", -1, nil
				f = behind
			}
		}
	}
}

// memorySet has something of everything: what is known, what is not, items, several values.
func memorySet() []api.Node {
	return []api.Node{element(codeTag, api.VRCS, `CT\MR`), element(creatorTag, api.VRUN, "ab"), sequence(privateTag, 1), item(1), element(privateTag, api.VRUS, "abcd"), sequence(stepsTag, 1), item(1), element(codeTag, api.VRCS, "MR")}
}

// TestMemory: the nodes that are handed in stay as they are, spare room included, and those that are handed out are new.
func TestMemory(t *testing.T) {
	spare := element(codeTag, api.VRCS, "CT")
	room := append(memorySet(), spare, spare)
	before := slices.Clone(room)
	text, err := dump.Print(room[:len(room)-2])
	if err != nil || !slices.Equal(room, before) {
		t.Fatalf("DOC.md, Memory: %v, the nodes are now %s", err, shown(room))
	}
	first, err := dump.Parse(text)
	if err != nil {
		t.Fatal(err)
	}
	second, _ := dump.Parse(text)
	first = first[:cap(first)]
	for i := range first {
		first[i] = spare
	}
	if !slices.Equal(second, memorySet()) {
		t.Errorf("DOC.md, Memory: two answers of Parse share memory: %s", shown(second))
	}
	if third, err := dump.Parse(text); err != nil || !slices.Equal(third, memorySet()) {
		t.Errorf("DOC.md, One answer: %s, %v", shown(third), err)
	}
}
