package charset_test

import (
	"math/rand"
	"reflect"
	"slices"
	"strings"
	"testing"

	"modality/api"
	"modality/charset"
)

func wantUnified(t *testing.T, nodes, want []api.Node) {
	t.Helper()
	if got, err := charset.Unify(nodes); err != nil || !reflect.DeepEqual(got, want) {
		t.Errorf("P4.7: Unify(%s): %s, %v; want %s", shown(nodes), shown(got), err, shown(want))
	}
}

func wantNotUnified(t *testing.T, nodes []api.Node, code api.Errno, at int) {
	t.Helper()
	if got, err := charset.Unify(nodes); got != nil || !is(err, code, at) {
		t.Errorf("P4.7: Unify(%s): %s, %v; want %d at %d", shown(nodes), shown(got), err, code, at)
	}
}

func TestUnify(t *testing.T) {
	wantUnified(t, nil, nil)
	wantUnified(t, []api.Node{}, nil)
	wantUnified(t, []api.Node{named("ISO_IR 100")}, nil)
	wantUnified(t, []api.Node{named("")}, nil)
	wantUnified(t, []api.Node{name("A^B")}, []api.Node{name("A^B")})
	wantUnified(t, []api.Node{named("ISO_IR 100"), name("M\xFCller")}, []api.Node{name("Müller")})
	wantUnified(t, []api.Node{named(" ISO_IR 192 "), name("Müller")}, []api.Node{name("Müller")})
	wantUnified(t, []api.Node{named(`\ISO 2022 IR 144`), name("a^\x1B-L\xBB")}, []api.Node{name("a^Л")})
	wantUnified(t, []api.Node{named(`ISO 2022 IR 100 \ ISO 2022 IR 144`), name("\xE9\x1B-L\xBB")}, []api.Node{name("éЛ")})
	wantNotUnified(t, []api.Node{name("M\xFC")}, api.ErrCharByte, 0)
}

// TestKindsOfVRs looks at every VR: which are texts, and of which kind.
func TestKindsOfVRs(t *testing.T) {
	kinds := map[api.VR]int{
		api.VRLO: api.CharWord, api.VRSH: api.CharWord, api.VRUC: api.CharWord, api.VRPN: api.CharName,
		api.VRST: api.CharText, api.VRLT: api.CharText, api.VRUT: api.CharText,
	}
	s := set(t, "ISO 2022 IR 100", "ISO 2022 IR 144")
	for v := api.VR(-1); v < api.VRItem+3; v++ {
		if v == api.VRItem {
			continue
		}
		for _, raw := range []string{"\x1B-L\xBB\\\xBB", "\x1B-L\xBB^\xBB=\xBB", "\x1B-L\xBB\n\xBB", "\xE9\x80", "\x1B-L\xBB  ", "a "} {
			nodes := []api.Node{named(`ISO 2022 IR 100\ISO 2022 IR 144`), element(0x00100020, v, raw)}
			kind, ok := kinds[v]
			if !ok {
				wantUnified(t, nodes, nodes[1:])
				holdUntouched(t, v, raw)
				continue
			}
			text, err := s.Decode(kind, []byte(raw))
			if err == nil {
				wantUnified(t, nodes, []api.Node{element(0x00100020, v, strings.TrimRight(text, " "))})
			} else {
				wantNotUnified(t, nodes, err.(*api.Fault).Err.(api.Errno), 1)
			}
		}
	}
}

func holdUntouched(t *testing.T, v api.VR, value string) {
	t.Helper()
	n := element(0x00100020, v, value)
	if got, err := charset.Express([]api.Node{n}, "ISO_IR 100"); err != nil || !slices.Equal(got, []api.Node{named("ISO_IR 100"), n}) {
		t.Errorf("P4.8: Express of %v: %v, %v", n, got, err)
	}
}

// TestSpaces: padding goes when a text is read, and nothing else.
func TestSpaces(t *testing.T) {
	for raw, want := range map[string]string{
		"a ":             "a",
		"a    ":          "a",
		" a":             " a",
		" ":              "",
		"   ":            "",
		" \x1B-L ":       "",
		"a \x1B-L":       "a",
		"a \x1B(B":       "a",
		"\x1B-L\xBB \\ ": "Л \\",
		"a\xA0":          "a\u00A0",
		"a\xA0 ":         "a\u00A0",
	} {
		nodes := []api.Node{named(`ISO 2022 IR 100\ISO 2022 IR 144`), element(0x00100020, api.VRLO, raw)}
		wantUnified(t, nodes, []api.Node{element(0x00100020, api.VRLO, want)})
	}
	wantUnified(t, []api.Node{element(0x00104000, api.VRLT, "a\n ")}, []api.Node{element(0x00104000, api.VRLT, "a\n")})
	wantUnified(t, []api.Node{element(0x00104000, api.VRLT, "a \n")}, []api.Node{element(0x00104000, api.VRLT, "a \n")})
	wantUnified(t, []api.Node{element(0x00080060, api.VRCS, "CT ")}, []api.Node{element(0x00080060, api.VRCS, "CT ")})
	wantNotUnified(t, []api.Node{name("a\x00")}, api.ErrCharByte, 0)
}

// TestLevels: a set holds on its level and inside, wherever on the level it is named.
func TestLevels(t *testing.T) {
	wantUnified(t, []api.Node{
		name("\xBB"),
		sequence(0x00400100, 3),
		item(2),
		element(0x00400007, api.VRLO, "\xE9"),
		named("ISO_IR 100"),
		item(2),
		sequence(0x00400008, 2),
		item(1),
		element(0x00080104, api.VRLO, "\xBB"),
		item(3),
		element(0x00080104, api.VRLO, "\xB3"),
		named("ISO_IR 101"),
		sequence(0x00400009, 1),
		item(1),
		element(0x00080104, api.VRLO, "\xB3"),
		element(0x00400007, api.VRLO, "\xBB"),
		item(1),
		named(""),
		element(0x00400010, api.VRSH, "\xBB"),
		named("ISO_IR 144"),
		name("\xBB"),
	}, []api.Node{
		name("Л"),
		sequence(0x00400100, 3),
		item(1),
		element(0x00400007, api.VRLO, "é"),
		item(2),
		sequence(0x00400008, 2),
		item(1),
		element(0x00080104, api.VRLO, "Л"),
		item(2),
		element(0x00080104, api.VRLO, "ł"),
		sequence(0x00400009, 1),
		item(1),
		element(0x00080104, api.VRLO, "ł"),
		element(0x00400007, api.VRLO, "Л"),
		item(0),
		element(0x00400010, api.VRSH, "Л"),
		name("Л"),
	})
}

// TestEmptyName: an item's own element without a term is ISO_IR 6 there, not the set around.
func TestEmptyName(t *testing.T) {
	wantNotUnified(t, []api.Node{
		named("ISO_IR 144"), sequence(0x00400100, 1), item(2), named(""), name("\xBB"),
	}, api.ErrCharByte, 4)
	wantNotUnified(t, []api.Node{sequence(0x00400100, 2), item(1), named("ISO_IR 144"), item(1), name("\xBB")}, api.ErrCharByte, 4)
	wantNotUnified(t, []api.Node{sequence(0x00400100, 1), item(1), named("ISO_IR 144"), name("\xBB")}, api.ErrCharByte, 3)
}

func TestUnifyRefuses(t *testing.T) {
	bad, broken := named("ISO_IR 13"), item(0)
	for _, x := range []struct {
		nodes []api.Node
		code  api.Errno
		at    int
	}{
		{[]api.Node{named("ISO_IR 100"), named("ISO_IR 100")}, api.ErrCharNodes, 1},
		{[]api.Node{named("ISO_IR 100"), name("a"), named("")}, api.ErrCharNodes, 2},
		{[]api.Node{named("ISO_IR 100"), bad}, api.ErrCharNodes, 1},
		{[]api.Node{bad, named("ISO_IR 100")}, api.ErrCharTerm, 0},
		{[]api.Node{element(api.TagCharset, api.VRLO, "ISO_IR 100")}, api.ErrCharNodes, 0},
		{[]api.Node{element(api.TagCharset, api.VRLO, "ISO_IR 13")}, api.ErrCharNodes, 0},
		{[]api.Node{name("a"), element(api.TagCharset, api.VRUN, "")}, api.ErrCharNodes, 1},
		{[]api.Node{sequence(api.TagCharset, 1), item(0)}, api.ErrCharNodes, 0},
		{[]api.Node{named("ISO_IR 100\x00")}, api.ErrCharTerm, 0},
		{[]api.Node{name("a"), named(`\`)}, api.ErrCharTerm, 1},
		{[]api.Node{name("a"), named(`ISO_IR 100\ISO 2022 IR 101`)}, api.ErrCharAlone, 1},
		{[]api.Node{name("a"), named(`\ISO 2022 IR 101\ISO 2022 IR 101`)}, api.ErrCharTwice, 1},
		{[]api.Node{name("a"), named(`\\\\\\`)}, api.ErrCharMany, 1},
		{[]api.Node{name("a"), named(`\\\\\`)}, api.ErrCharTerm, 1},
		// The sets go ahead of the texts, the form ahead of both.
		{[]api.Node{name("\xFF"), bad}, api.ErrCharTerm, 1},
		{[]api.Node{name("\xFF"), named(""), named("")}, api.ErrCharNodes, 2},
		{[]api.Node{name("\xFF"), bad, broken}, api.ErrCharNodes, 2},
		{[]api.Node{sequence(0x00400100, 1), item(2), named(""), name("\xFF")}, api.ErrCharByte, 3},
		{[]api.Node{sequence(0x00400100, 1), item(2), named(""), bad, named("")}, api.ErrCharNodes, 3},
		{[]api.Node{sequence(0x00400100, 2), item(1), named(""), item(1), named(""), bad}, api.ErrCharTerm, 5},
		{[]api.Node{sequence(0x00400100, 2), item(1), named(""), item(1), bad, bad}, api.ErrCharTerm, 4},
		{[]api.Node{named(""), sequence(0x00400100, 1), item(0), named("")}, api.ErrCharNodes, 3},
		{[]api.Node{{Tag: api.TagCharset, VR: api.VRCS, N: 1, Value: "ISO_IR 13"}}, api.ErrCharNodes, 0},
		// Of the texts the first.
		{[]api.Node{name("a"), name("\xFF"), name("\x80")}, api.ErrCharByte, 1},
		{[]api.Node{named("ISO 2022 IR 100"), name("\x1B-B"), name("\x80")}, api.ErrCharEscape, 1},
		{[]api.Node{name(filled(api.MaxCharBytes+1, " ")), name("\x80")}, api.ErrCharLong, 0},
		{[]api.Node{named("ISO_IR 100"), name(filled(api.MaxCharBytes, "\xE9 "))}, api.ErrCharLong, 1},
	} {
		wantNotUnified(t, x.nodes, x.code, x.at)
	}
	long := name(filled(api.MaxCharBytes, ""))
	wantUnified(t, []api.Node{long}, []api.Node{long})
}

// modelUnified is P4.7's answer told once more, from the top down, for lists whose form is right; not ok: some refusal.
func modelUnified(t *testing.T, nodes []api.Node, from, count int, around string) (out []api.Node, next int, ok bool) {
	own, names := around, 0
	for i, k := from, 0; k < count; k++ {
		if nodes[i].Tag == api.TagCharset {
			own = nodes[i].Value
			names++
		}
		i, _ = modelElement(nodes, i)
	}
	s, err := charset.New(strings.Split(own, `\`))
	if err != nil || names > 1 {
		return nil, 0, false
	}
	i := from
	for range count {
		n := nodes[i]
		i++
		kind, isText := map[api.VR]int{api.VRPN: api.CharName, api.VRLO: api.CharWord, api.VRLT: api.CharText}[n.VR]
		if isText {
			if n.Value, err = s.Decode(kind, []byte(n.Value)); err != nil {
				return nil, 0, false
			}
			n.Value = strings.TrimRight(n.Value, " ")
		}
		if n.Tag != api.TagCharset {
			out = append(out, n)
		}
		for range n.N {
			inner, next, ok := modelUnified(t, nodes, i+1, nodes[i].N, own)
			if !ok {
				return nil, 0, false
			}
			head := item(nodes[i].N)
			for j, k := i+1, 0; k < nodes[i].N; k++ {
				if nodes[j].Tag == api.TagCharset {
					head.N--
				}
				j, _ = modelElement(nodes, j)
			}
			out = append(append(out, head), inner...)
			i = next
		}
	}
	return out, i, true
}

// grown gives a list of elements whose form is right, with sets named here and there, and how many stand on its level.
func grown(rng *rand.Rand, depth int) (nodes []api.Node, count int) {
	values := []string{"", "ISO_IR 100", "ISO_IR 144", "ISO_IR 192", `ISO 2022 IR 100\ISO 2022 IR 144`, `\ISO 2022 IR 101`}
	raws := []string{"a", "b ", "", "\xE9", "\xBB", "é", "\x1B-L\xBB", "\x1B-B\xB3"}
	vrs := []api.VR{api.VRPN, api.VRLO, api.VRLT}
	tag := api.Tag(0x00080001)
	for range rng.Intn(4) {
		tag += api.Tag(2 * (1 + rng.Intn(3)))
		count++
		if rng.Intn(3) == 0 && depth > 0 {
			items := rng.Intn(3)
			nodes = append(nodes, sequence(tag-1, items))
			for range items {
				inner, n := grown(rng, depth-1)
				nodes = append(append(nodes, item(n)), inner...)
			}
			continue
		}
		raw := raws[rng.Intn(len(raws))]
		if rng.Intn(2) == 0 {
			raw = "a"
		}
		nodes = append(nodes, element(tag-1, vrs[rng.Intn(3)], raw))
	}
	if rng.Intn(2) == 0 {
		at := 0
		for range rng.Intn(count + 1) {
			at, _ = modelElement(nodes, at)
		}
		nodes = slices.Insert(nodes, at, named(values[rng.Intn(len(values))]))
		count++
	}
	return nodes, count
}

func TestUnifyModel(t *testing.T) {
	rng := rand.New(rand.NewSource(47))
	read := 0
	for range 20000 {
		nodes, count := grown(rng, 3)
		want, _, ok := modelUnified(t, nodes, 0, count, "")
		got, err := charset.Unify(nodes)
		if ok != (err == nil) || !slices.Equal(got, want) {
			t.Fatalf("P4.7: Unify(%s): %s, %v; want %s, %v", shown(nodes), shown(got), err, shown(want), ok)
		}
		for _, n := range got {
			if strings.HasSuffix(n.Value, " ") || n.Tag == api.TagCharset {
				t.Fatalf("P4.13: Unify(%s) has %v", shown(nodes), n)
			}
		}
		if ok && len(got) > 4 {
			read++
		}
	}
	if read < 1000 {
		t.Errorf("only %d lists were read", read)
	}
}
