package worklist_test

import (
	"math/rand/v2"
	"slices"
	"testing"

	"modality/api"
	"modality/dict"
	"modality/worklist"
)

// tags that random keys are made of: all that is known somewhere, and some that is known nowhere, sequences among them.
func someTags() []api.Tag {
	tags := []api.Tag{0x00080016, 0x00081110, 0x00090010, 0x00091001, 0x00280010, 0x00321064, 0x00400008, 0x00400004}
	for _, table := range []string{topTable, stepTable} {
		for _, l := range linesOf(table) {
			tags = append(tags, l.tag)
		}
	}
	slices.Sort(tags)
	return tags
}

// someValues are keys of a VR, such as may be asked for and such as may not.
func someValues(v api.VR) []string {
	switch v {
	case api.VRDA:
		return []string{"20260105", "20260104-20260106", "20260105-", "-20260105", "20260106-20260104", "2026", "-", "20260105-20260105"}
	case api.VRTM:
		return []string{"0930", "09-10", "0930-", "-0930", "10-09", "1000-0900", "-", "25-", "09-10-11", "0930-093000.5", "x"}
	case api.VRPN:
		return []string{"doe*", "DOE^JANE", "Smith", "?oe^Jane", "=", "a=b"}
	case api.VRUI:
		return []string{"1.2", `1.3\1.2`, "1.4"}
	case api.VRUS:
		return []string{"ab", "\x00\x01"}
	case api.VRUN:
		return []string{"un"}
	}
	return []string{"CT", "C*", "?", "*", "MR", `CT\MR`, "SCHEDULED", "S?ARTED"}
}

// someTexts are what a step has in a field of a VR.
func someTexts(v api.VR) []string {
	switch v {
	case api.VRDA:
		return []string{"20260104", "20260105", "20260106", "", "2026", `20260105\20260106`}
	case api.VRTM:
		return []string{"09", "0930", "093000.5", "10", "", "25", `09\10`}
	case api.VRPN:
		return []string{"Doe^Jane", "Smith", "", "Yamada=a=b"}
	case api.VRUI:
		return []string{"1.2", "1.3", ""}
	}
	return []string{"CT", "MR", "C", "", `MR\CT`}
}

func one[T any](r *rand.Rand, list []T) T { return list[r.IntN(len(list))] }

func randomValue(r *rand.Rand, v api.VR) string {
	if r.IntN(2) == 0 {
		return ""
	}
	return one(r, someValues(v))
}

// randomElements gives up to so many elements, with items down to the depth that is left.
func randomElements(r *rand.Rand, tags []api.Tag, most, depth int) (nodes []api.Node, count int) {
	chance := 1 + len(tags)/max(1, most)
	for _, tag := range tags {
		if r.IntN(chance) != 0 {
			continue
		}
		count++
		n := api.Node{Tag: tag, VR: dict.Default(tag)}
		if n.VR != api.VRSQ {
			n.Value = randomValue(r, n.VR)
			nodes = append(nodes, n)
			continue
		}
		if depth > 0 && r.IntN(4) > 0 {
			n.N = 1 + r.IntN(8)/7
		}
		nodes = append(nodes, n)
		for range n.N {
			inner, k := randomElements(r, tags, most, depth-1)
			nodes = append(append(nodes, item(k)), inner...)
		}
	}
	return nodes, count
}

func randomKeys(r *rand.Rand) []api.Node {
	keys, _ := randomElements(r, someTags(), 1+r.IntN(6), api.MaxDepth)
	if r.IntN(10) > 0 || len(keys) == 0 {
		return keys
	}
	// Now and then one that is not well formed.
	n := &keys[r.IntN(len(keys))]
	switch r.IntN(4) {
	case 0:
		n.Value += " "
	case 1:
		n.N++
	case 2:
		n.VR = api.VRST
	default:
		n.Tag = 0x0008
	}
	return keys
}

func randomStep(r *rand.Rand) api.Step {
	s := api.Step{Status: r.IntN(7) - 1}
	for _, table := range []string{topTable, stepTable} {
		for _, l := range linesOf(table) {
			if !l.isSequence() && l.field != "Status" {
				set(&s, l.field, one(r, someTexts(l.vr)))
			}
		}
	}
	return s
}

// TestRandom holds all faces against the document read another way.
func TestRandom(t *testing.T) {
	r := rand.New(rand.NewPCG(13, 1))
	refused, warnings, matches, misses := 0, 0, 0, 0
	for range 6000 {
		keys := randomKeys(r)
		want := modelLook(keys)
		if got := look(keys); !same(got, want) {
			t.Fatalf("P13.2: %s: %+v, not %+v", shown(keys), got, want)
		}
		if want.Warned {
			warnings++
		}
		if want.Status != 0 {
			refused++
		}
		var list []api.Step
		for range 1 + r.IntN(12) {
			s := randomStep(r)
			list = append(list, s)
			hit := modelMatches(s, keys)
			if worklist.Matches(s, keys) != hit {
				t.Fatalf("P13.3: %s matches %s: %v", shown(s), shown(keys), !hit)
			}
			if hit {
				matches++
			} else {
				misses++
			}
			if got, want := worklist.Project(s, keys), modelProject(s, keys); !same(got, want) {
				t.Fatalf("P13.4: of %s by %s: %s, not %s", shown(s), shown(keys), shown(got), shown(want))
			}
		}
		if got, want := find(list, keys), modelFind(list, keys); !same(got, want) {
			t.Fatalf("P13.5: %s: %s, not %s", shown(keys), shown(got), shown(want))
		}
	}
	if refused < 500 || warnings < 500 || matches < 2000 || misses < 2000 {
		t.Errorf("the test is too thin: %d refused, %d warned, %d matches, %d misses", refused, warnings, matches, misses)
	}
}

// TestGarbage: lists of nodes that nobody would make; every face answers, and as the model does.
func TestGarbage(t *testing.T) {
	r := rand.New(rand.NewPCG(13, 2))
	tags := append(someTags(), api.TagItem, api.TagItem, api.TagItem, 0, 0xFFFFFFFF, 0x00080005)
	for range 60000 {
		var keys []api.Node
		for range r.IntN(6) {
			tag := one(r, tags)
			n := api.Node{Tag: tag, VR: dict.Default(tag), N: one(r, []int{0, 0, 0, 1, 1, 2, -1, 1 << 62, -1 << 63}), Value: one(r, []string{"", "", "", "CT", "-", " ", "\x00", "\xff"})}
			if r.IntN(10) == 0 {
				n.VR = api.VR(r.IntN(33) - 2)
			}
			keys = append(keys, n)
		}
		if got, want := look(keys), modelLook(keys); !same(got, want) {
			t.Fatalf("P13.2: %s: %+v, not %+v", shown(keys), got, want)
		}
		s := randomStep(r)
		if got, want := find([]api.Step{s}, keys), modelFind([]api.Step{s}, keys); !same(got, want) {
			t.Fatalf("P13.5: %s: %s, not %s", shown(keys), shown(got), shown(want))
		}
		if got, want := worklist.Project(s, keys), modelProject(s, keys); !same(got, want) {
			t.Fatalf("P13.4: by %s: %s, not %s", shown(keys), shown(got), shown(want))
		}
	}
}
