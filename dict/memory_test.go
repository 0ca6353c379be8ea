package dict_test

import (
	"reflect"
	"slices"
	"testing"

	"modality/api"
	"modality/dict"
)

// spaced gives a list with room behind its end, and a look at all of it.
func spaced(nodes []api.Node) (list, all []api.Node) {
	all = append(slices.Clone(nodes), item(7), item(7), item(7))
	return all[:len(nodes):len(all)], all
}

func TestItemsMemory(t *testing.T) {
	ct := element(codeTag, api.VRCS, "CT")
	list, all := spaced([]api.Node{sequence(stepsTag, 3), item(1), ct, item(2), ct, element(idTag, api.VRSH, "P"), item(0)})
	before := slices.Clone(all)
	first, _ := dict.Items(list, stepsTag)
	second, _ := dict.Items(list, stepsTag)
	want := [][]api.Node{{ct}, {ct, element(idTag, api.VRSH, "P")}, nil}
	for i := range first {
		whole := first[i][:cap(first[i])]
		for j := range whole {
			whole[j] = item(99)
		}
	}
	for i := range first[:cap(first)] {
		first[:cap(first)][i] = nil
	}
	if !reflect.DeepEqual(second, want) || !slices.Equal(all, before) {
		t.Errorf("what was told shares memory: %v, %v", second, all)
	}
	whole := second[0][:cap(second[0])]
	for j := range whole {
		whole[j] = item(5)
	}
	if !reflect.DeepEqual(second[1:], want[1:]) {
		t.Errorf("the lists of an answer share memory: %v", second)
	}
	list[2].Value = "MR"
	if got, _ := dict.Items(list, stepsTag); got[0][0].Value != "MR" {
		t.Errorf("what was handed in was kept: %v", got)
	}
}

// TestGivenLists looks whether what is handed in is as it was, the room behind its end too.
func TestGivenLists(t *testing.T) {
	list, all := spaced([]api.Node{sequence(stepsTag, 1), item(1), element(codeTag, api.VRCS, "CT"), element(idTag, api.VRSH, "P")})
	before := slices.Clone(all)
	dict.Formed(list)
	dict.Next(list, 0)
	dict.Value(list, idTag)
	dict.Items(list, stepsTag)
	if !slices.Equal(all, before) {
		t.Errorf("the list is now %v", all)
	}
	texts := []string{"a", "b", "c"}
	if joined, err := dict.Join(api.VRLO, texts[:2]); joined != "a\\b" || err != nil || !slices.Equal(texts, []string{"a", "b", "c"}) {
		t.Errorf("Join: %q, %v, %q", joined, err, texts)
	}
}

func TestSplitMemory(t *testing.T) {
	for _, v := range []api.VR{api.VRLO, api.VRUS, api.VRLT} {
		first := dict.Split(v, "ab\\c")
		want := slices.Clone(first)
		whole := first[:cap(first)]
		for i := range whole {
			whole[i] = "x"
		}
		if got := dict.Split(v, "ab\\c"); !slices.Equal(got, want) {
			t.Errorf("Split(%d) is now %q", v, got)
		}
	}
}

// TestFaultsAreNew: whoever changes a fault changes no other.
func TestFaultsAreNew(t *testing.T) {
	refuse := map[string]func() error{
		"ParseTag": func() error { _, err := dict.ParseTag(""); return err },
		"VROf":     func() error { _, err := dict.VROf(""); return err },
		"Join":     func() error { _, err := dict.Join(api.VRSQ, nil); return err },
		"Check":    func() error { return dict.Check(api.VRCS, "x") },
		"Valid":    func() error { return dict.Valid(api.VRCS, "x") },
		"Fits":     func() error { return dict.Fits(codeTag, api.VRCS, "A\\B") },
		"Formed":   func() error { return dict.Formed([]api.Node{{}}) },
	}
	for name, call := range refuse {
		first := call().(*api.Fault)
		text := first.Error()
		if inner, ok := first.Err.(*api.Fault); ok {
			*inner = api.Fault{}
		}
		*first = api.Fault{}
		if again := call(); again.Error() != text {
			t.Errorf("%s: %v, then %v", name, text, again)
		}
	}
}
