package dict_test

import (
	"math"
	"math/rand"
	"reflect"
	"testing"

	"modality/api"
	"modality/dict"
)

// after tells the place behind a node by the tree that the numbers make, as deep as it goes.
func after(nodes []api.Node, i int) int {
	n := nodes[i].N
	i++
	for k := 0; k < n && i < len(nodes); k++ {
		i = after(nodes, i)
	}
	return i
}

func wantNext(nodes []api.Node, i int) int {
	if i < 0 || i >= len(nodes) {
		return len(nodes)
	}
	return after(nodes, i)
}

// wantItems looks for the first node of the top with a tag, and for what is right below it.
func wantItems(nodes []api.Node, t api.Tag) (value string, found bool, items [][]api.Node, isSequence bool) {
	for i := 0; i < len(nodes); i = after(nodes, i) {
		if nodes[i].Tag != t {
			continue
		}
		value, found, isSequence = nodes[i].Value, true, nodes[i].VR == 18
		if !isSequence {
			return value, found, nil, false
		}
		end := after(nodes, i)
		for j := i + 1; j < end; j = after(nodes, j) {
			var list []api.Node
			for k := j + 1; k < after(nodes, j); k++ {
				list = append(list, nodes[k])
			}
			items = append(items, list)
		}
		return value, found, items, true
	}
	return "", false, nil, false
}

// wild makes a list in which nothing need be right.
func wild(random *rand.Rand) []api.Node {
	var nodes []api.Node
	numbers := []int{0, 0, 0, 1, 1, 2, 3, -1, -5, math.MinInt, math.MaxInt, math.MaxInt - 1, math.MaxInt / 2}
	for range random.Intn(14) {
		nodes = append(nodes, api.Node{
			Tag:   []api.Tag{0, 1, stepsTag, api.TagItem, 0xFFFFFFFF}[random.Intn(5)],
			VR:    []api.VR{api.VRSQ, api.VRItem, api.VRLO, -1}[random.Intn(4)],
			N:     numbers[random.Intn(7+random.Intn(len(numbers)-6))],
			Value: []string{"", "a", "b"}[random.Intn(3)],
		})
	}
	return nodes
}

func TestNodesRandom(t *testing.T) {
	random := rand.New(rand.NewSource(11))
	for range 40000 {
		nodes := wild(random)
		for i := -2; i < len(nodes)+3; i++ {
			if got, want := dict.Next(nodes, i), wantNext(nodes, i); got != want {
				t.Fatalf("P3.11: Next(%v, %d) = %d, want %d", nodes, i, got, want)
			}
		}
		for _, tag := range []api.Tag{0, 1, 2, stepsTag, api.TagItem, 0xFFFFFFFF} {
			value, found, items, isSequence := wantItems(nodes, tag)
			if got, ok := dict.Value(nodes, tag); got != value || ok != found {
				t.Fatalf("P3.11: Value(%v, %08X) = %q, %v", nodes, tag, got, ok)
			}
			if got, ok := dict.Items(nodes, tag); ok != isSequence || !reflect.DeepEqual(got, items) {
				t.Fatalf("P3.11: Items(%v, %08X) = %v, %v, want %v", nodes, tag, got, ok, items)
			}
		}
	}
}

func TestNext(t *testing.T) {
	ct := element(codeTag, api.VRCS, "CT")
	list := []api.Node{ct, sequence(stepsTag, 2), item(1), ct, item(0), element(idTag, api.VRSH, "P")}
	for i, want := range map[int]int{0: 1, 1: 5, 2: 4, 3: 4, 4: 5, 5: 6, 6: 6, 7: 6, -1: 6, math.MinInt: 6, math.MaxInt: 6} {
		if got := dict.Next(list, i); got != want {
			t.Errorf("P3.11: Next(%d) = %d, want %d", i, got, want)
		}
	}
	for _, i := range []int{-1, 0, 1} {
		if got := dict.Next(nil, i); got != 0 {
			t.Errorf("P3.11: Next(nil, %d) = %d", i, got)
		}
	}
	huge := []api.Node{sequence(stepsTag, math.MaxInt), item(math.MaxInt), item(math.MaxInt), item(math.MaxInt), item(0), item(0)}
	for i := range huge[:4] {
		if got := dict.Next(huge, i); got != 6 {
			t.Errorf("P3.11: Next(huge, %d) = %d", i, got)
		}
	}
}

func TestValue(t *testing.T) {
	list := []api.Node{element(codeTag, api.VRCS, "MR"), element(codeTag, api.VRCS, "CT"), sequence(stepsTag, 1), item(1), element(idTag, api.VRSH, "inner"), element(rowsTag, api.VRUS, "")}
	for tag, want := range map[api.Tag]string{codeTag: "MR", idTag: "-", rowsTag: "", stepsTag: "", 0: "-", api.TagItem: "-"} {
		got, ok := dict.Value(list, tag)
		if ok != (want != "-") || ok && got != want || !ok && got != "" {
			t.Errorf("P3.11: Value(%08X) = %q, %v", tag, got, ok)
		}
	}
	if got, ok := dict.Value(nil, 0); got != "" || ok {
		t.Errorf("P3.11: Value of nothing: %q, %v", got, ok)
	}
}

func TestItems(t *testing.T) {
	ct, p := element(codeTag, api.VRCS, "CT"), element(idTag, api.VRSH, "P")
	nested := []api.Node{sequence(stepsTag, 1), item(1), ct}
	for what, c := range map[string]struct {
		nodes []api.Node
		want  [][]api.Node
		ok    bool
	}{
		"two":                       {[]api.Node{sequence(stepsTag, 2), item(1), ct, item(0), p}, [][]api.Node{{ct}, nil}, true},
		"none":                      {[]api.Node{sequence(stepsTag, 0), p}, nil, true},
		"cut off":                   {[]api.Node{sequence(stepsTag, 3), item(4), ct}, [][]api.Node{{ct}}, true},
		"nested":                    {append([]api.Node{sequence(stepsTag, 2), item(2)}, append(nested, p, item(1), p)...), [][]api.Node{append(nested[:3:3], p), {p}}, true},
		"no sequence":               {[]api.Node{{Tag: stepsTag, VR: api.VRUN, N: 1}, item(0)}, nil, false},
		"no sequence, but a second": {[]api.Node{{Tag: stepsTag, VR: api.VRUN}, sequence(stepsTag, 1), item(0)}, nil, false},
		"only inside":               {[]api.Node{sequence(0x00081110, 1), item(1), sequence(stepsTag, 1), item(0)}, nil, false},
		"not there":                 {[]api.Node{ct}, nil, false},
		"nothing":                   {nil, nil, false},
		"elements for items":        {[]api.Node{sequence(stepsTag, 2), ct, p, p}, [][]api.Node{nil, nil}, true},
	} {
		if got, ok := dict.Items(c.nodes, stepsTag); ok != c.ok || !reflect.DeepEqual(got, c.want) {
			t.Errorf("P3.11: %s: %v, %v", what, got, ok)
		}
	}
}
