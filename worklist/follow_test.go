package worklist_test

import (
	"fmt"
	"math/rand/v2"
	"slices"
	"testing"

	"modality/api"
	"modality/charset"
	"modality/dataset"
	"modality/dict"
	"modality/worklist"
)

func randomSteps(r *rand.Rand, n int) []api.Step {
	var list []api.Step
	for range n {
		list = append(list, randomStep(r))
	}
	return list
}

// TestFollowsBlank: keys without any value match every step.
func TestFollowsBlank(t *testing.T) {
	r := rand.New(rand.NewPCG(13, 3))
	for range 1500 {
		keys := randomKeys(r)
		for i := range keys {
			keys[i].Value = ""
		}
		status := look(keys).Status
		for _, s := range randomSteps(r, 3) {
			if worklist.Matches(s, keys) != (status == 0) {
				t.Fatalf("P13.6: %s and %s", shown(s), shown(keys))
			}
		}
	}
}

// isOne tells whether day and time of well-formed keys are one.
func isOne(keys []api.Node) bool {
	known, _ := modelKeys(keys)
	_, _, ok := together(known)
	return ok
}

// TestFollowsNarrower: one value more, and no step matches that did not.
func TestFollowsNarrower(t *testing.T) {
	r := rand.New(rand.NewPCG(13, 4))
	lost, excepted := 0, 0
	for range 6000 {
		keys := randomKeys(r)
		if r.IntN(2) == 0 {
			keys = when(randomValue(r, api.VRDA), randomValue(r, api.VRTM))
		}
		empty := slices.IndexFunc(keys, func(n api.Node) bool { return n.Value == "" && n.VR != api.VRSQ && n.VR != api.VRItem })
		if empty < 0 || dict.Formed(keys) != nil {
			continue
		}
		more := slices.Clone(keys)
		more[empty].Value = one(r, someValues(more[empty].VR))
		if isOne(more) && !isOne(keys) {
			excepted++
			continue
		}
		for _, s := range randomSteps(r, 5) {
			before, after := worklist.Matches(s, keys), worklist.Matches(s, more)
			if after && !before && look(keys).Status == 0 {
				t.Fatalf("P13.6: %s matches %s, and not %s", shown(s), shown(more), shown(keys))
			}
			if before && !after {
				lost++
			}
		}
	}
	if lost < 300 || excepted < 50 {
		t.Errorf("the test is too thin: %d, %d", lost, excepted)
	}
	// What the document excepts: by the day's range the time's is no longer asked for by itself.
	wantMatch(t, s1(), when("", "10-11"), false)
	wantMatch(t, s1(), when("20260104-20260105", "10-11"), true)
}

// TestFollowsBehind: two lists one behind the other.
func TestFollowsBehind(t *testing.T) {
	r := rand.New(rand.NewPCG(13, 5))
	for range 1500 {
		keys := randomKeys(r)
		a, b := randomSteps(r, r.IntN(12)), randomSteps(r, r.IntN(12))
		whole, first, second := find(slices.Concat(a, b), keys), find(a, keys), find(b, keys)
		if !same(whole.Looked, first.Looked) || !same(whole.Looked, second.Looked) || !same(whole.Answers, slices.Concat(first.Answers, second.Answers)) {
			t.Fatalf("P13.6: %s: %s, %s, %s", shown(keys), shown(whole), shown(first), shown(second))
		}
	}
}

// TestFollowsFormed: answers are well-formed data sets where rows are, and not much longer than the keys.
func TestFollowsFormed(t *testing.T) {
	r := rand.New(rand.NewPCG(13, 6))
	rows := 0
	for range 3000 {
		keys := randomKeys(r)
		s := randomStep(r)
		if dict.Formed(worklist.Row(s)) != nil {
			continue
		}
		rows++
		answer := worklist.Project(s, keys)
		if dict.Formed(answer) != nil || len(answer) > len(keys)+11 {
			t.Fatalf("P13.6: by %s: %s", shown(keys), shown(answer))
		}
	}
	if rows < 2000 {
		t.Errorf("only %d rows", rows)
	}
}

// TestFollowsLong: the greatest answer has eleven nodes more than its keys, and is the one that is not well formed.
func TestFollowsLong(t *testing.T) {
	for _, many := range []int{api.MaxNodes - 12, api.MaxNodes - 11, api.MaxNodes} {
		keys := list(el(api.TagSteps, ""))
		for len(keys) < many {
			keys = append(keys, api.Node{Tag: 0x00410011 + api.Tag(len(keys)), VR: api.VRLO, Value: "x"})
		}
		got := find([]api.Step{full()}, keys)
		if !got.Looked.Warned || len(got.Answers) != 1 || len(got.Answers[0]) != many+11 {
			t.Fatalf("P13.6: %d keys: %s", many, shown(got))
		}
		if err := dict.Formed(got.Answers[0]); (err == nil) != (many+11 <= api.MaxNodes) {
			t.Errorf("P13.6: %d keys: %v", many, err)
		}
	}
}

// travelled sends keys through a character set and a syntax; false, if they can't go so.
func travelled(keys []api.Node, set string, syntax api.Syntax) ([]api.Node, bool) {
	implied, err := dataset.Implied(keys)
	if err != nil || !same(implied, keys) {
		return nil, false
	}
	sent, err := charset.Express(keys, set)
	if err != nil {
		return nil, false
	}
	b, err := dataset.Encode(sent, syntax)
	if err != nil {
		return nil, false
	}
	came, err := dataset.Decode(b, syntax)
	if err != nil {
		return nil, false
	}
	came, err = charset.Unify(came)
	return came, err == nil
}

// TestFollowsBytes: how keys stand as bytes turns nothing.
func TestFollowsBytes(t *testing.T) {
	r := rand.New(rand.NewPCG(13, 7))
	went := 0
	for range 600 {
		keys := randomKeys(r)
		all := randomSteps(r, 8)
		if i := slices.IndexFunc(keys, func(n api.Node) bool { return n.VR == api.VRPN }); i >= 0 {
			keys[i].Value = one(r, []string{"Müller*", "Дое*", "山田^太郎", "doe*"})
			all[0].PatientName, all[0].Referrer, all[0].Performer = "müller^jo", "Дое^х", "山田^太郎"
		}
		want := find(all, keys)
		for _, set := range []string{"", "ISO_IR 100", "ISO_IR 144", `\ISO 2022 IR 87`, "ISO_IR 192"} {
			for _, syntax := range []api.Syntax{api.Implicit, api.Explicit} {
				came, ok := travelled(keys, set, syntax)
				if !ok {
					continue
				}
				went++
				if got := find(all, came); !same(got, want) {
					t.Fatalf("P13.6: %s in %s: %s, not %s", shown(keys), fmt.Sprint(set, syntax), shown(got), shown(want))
				}
			}
		}
	}
	if went < 1000 {
		t.Errorf("only %d went", went)
	}
}
