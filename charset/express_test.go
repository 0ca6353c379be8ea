package charset_test

import (
	"math/rand"
	"reflect"
	"slices"
	"strings"
	"testing"

	"modality/api"
	"modality/charset"
)

func wantExpressed(t *testing.T, nodes []api.Node, cs string, want []api.Node) {
	t.Helper()
	if got, err := charset.Express(nodes, cs); err != nil || !reflect.DeepEqual(got, want) {
		t.Errorf("P4.8: Express(%s, %q): %s, %v; want %s", shown(nodes), cs, shown(got), err, shown(want))
	}
}

func wantNotExpressed(t *testing.T, nodes []api.Node, cs string, code api.Errno, at int) {
	t.Helper()
	if got, err := charset.Express(nodes, cs); got != nil || !is(err, code, at) {
		t.Errorf("P4.8: Express(%s, %q): %s, %v; want %d at %d", shown(nodes), cs, shown(got), err, code, at)
	}
}

func TestExpress(t *testing.T) {
	wantExpressed(t, nil, "", nil)
	wantExpressed(t, []api.Node{}, "ISO_IR 6", nil)
	wantExpressed(t, nil, "ISO_IR 100", []api.Node{named("ISO_IR 100")})
	wantExpressed(t, nil, "ISO 2022 IR 6", []api.Node{named("ISO 2022 IR 6")})
	wantExpressed(t, []api.Node{name("a")}, "", []api.Node{name("a")})
	wantExpressed(t, []api.Node{name("a ")}, "  ", []api.Node{name("a ")})
	wantExpressed(t, []api.Node{name("a")}, " ISO_IR 6 ", []api.Node{name("a")})
	wantExpressed(t, []api.Node{name("é")}, "", []api.Node{named("ISO_IR 192"), name("é")})
	wantExpressed(t, []api.Node{name("é")}, "ISO_IR 100", []api.Node{named("ISO_IR 100"), name("\xE9")})
	wantExpressed(t, []api.Node{name("é")}, " ISO_IR 100 ", []api.Node{named("ISO_IR 100"), name("\xE9")})
	wantExpressed(t, []api.Node{name("é")}, "ISO_IR 192", []api.Node{named("ISO_IR 192"), name("é")})
	wantExpressed(t, []api.Node{name("a")}, "ISO_IR 192", []api.Node{named("ISO_IR 192"), name("a")})
	wantExpressed(t, []api.Node{name("é^Л")}, "ISO_IR 100", []api.Node{named("ISO_IR 192"), name("é^Л")})
	wantExpressed(t, []api.Node{name("é^Л")}, `ISO 2022 IR 100 \ ISO 2022 IR 144`,
		[]api.Node{named(`ISO 2022 IR 100\ISO 2022 IR 144`), name("\xE9^\x1B-L\xBB")})
	wantExpressed(t, []api.Node{name("a^Л")}, `\ISO 2022 IR 144`,
		[]api.Node{named(`ISO 2022 IR 6\ISO 2022 IR 144`), name("a^\x1B-L\xBB")})
	wantExpressed(t, []api.Node{element(0x00080060, api.VRCS, "\xFF ")}, "", []api.Node{element(0x00080060, api.VRCS, "\xFF ")})
}

// TestWholeInOneSet: if one text can't be said, all are in ISO_IR 192, those ahead of it and those inside too.
func TestWholeInOneSet(t *testing.T) {
	texts := func(a, b, c string) []api.Node {
		return []api.Node{name(a), sequence(0x00400100, 1), item(1), element(0x00400007, api.VRLO, b), element(0x00400010, api.VRSH, c)}
	}
	in := func(cs string, nodes []api.Node) []api.Node { return append([]api.Node{named(cs)}, nodes...) }
	wantExpressed(t, texts("é", "é", "é"), "ISO_IR 100", in("ISO_IR 100", texts("\xE9", "\xE9", "\xE9")))
	wantExpressed(t, texts("ł", "é", "é"), "ISO_IR 100", in("ISO_IR 192", texts("ł", "é", "é")))
	wantExpressed(t, texts("é", "ł", "é"), "ISO_IR 100", in("ISO_IR 192", texts("é", "ł", "é")))
	wantExpressed(t, texts("é", "é", "ł"), "ISO_IR 100", in("ISO_IR 192", texts("é", "é", "ł")))
	long := filled(api.MaxCharBytes, "é")
	wantExpressed(t, texts("é", long, "é"), `\ISO 2022 IR 100`, in("ISO_IR 192", texts("é", long, "é")))
	wantExpressed(t, texts("é", long[3:], "é"), `\ISO 2022 IR 100`,
		in(`ISO 2022 IR 6\ISO 2022 IR 100`, texts("\x1B-A\xE9", filled(api.MaxCharBytes-1, "\x1B-A\xE9"), "\x1B-A\xE9")))
}

// TestPlace: the element goes ahead of the first top element whose tag is above it.
func TestPlace(t *testing.T) {
	low, high := element(0x00080001, api.VRUL, "1234"), element(0x00080006, api.VRSQ, "")
	inner := []api.Node{sequence(0x00041220, 1), item(1), element(0x00100020, api.VRLO, "a")}
	cs := named("ISO_IR 100")
	for _, x := range []struct{ ahead, behind []api.Node }{
		{nil, []api.Node{high}},
		{[]api.Node{low}, []api.Node{high, high}},
		{[]api.Node{low, low}, nil},
		{inner, nil},
		{inner, []api.Node{high}},
		{append([]api.Node{low}, inner...), append([]api.Node{name("a")}, inner...)},
		{[]api.Node{low}, append([]api.Node{high, low}, inner...)},
		{[]api.Node{element(0x00080004, api.VRLO, "")}, []api.Node{element(0x00080006, api.VRLO, "")}},
		{[]api.Node{element(0, api.VRNone, "")}, []api.Node{element(0xFFFFFFFF, api.VRLO, ""), element(0, api.VRNone, "")}},
	} {
		want := append(append(slices.Clone(x.ahead), cs), x.behind...)
		wantExpressed(t, append(slices.Clone(x.ahead), x.behind...), "ISO_IR 100", want)
	}
}

func TestExpressRefuses(t *testing.T) {
	broken, bad := item(0), "ISO_IR 13"
	for _, x := range []struct {
		nodes []api.Node
		cs    string
		code  api.Errno
		at    int
	}{
		{[]api.Node{named("ISO_IR 100")}, "", api.ErrCharNodes, 0},
		{[]api.Node{name("a"), named("ISO_IR 100"), named("")}, "", api.ErrCharNodes, 1},
		{[]api.Node{name("a"), element(api.TagCharset, api.VRUN, "")}, "", api.ErrCharNodes, 1},
		{[]api.Node{name("a"), named(""), broken}, "", api.ErrCharNodes, 1},
		{[]api.Node{name("a"), broken, named("")}, "", api.ErrCharNodes, 1},
		{[]api.Node{name("a"), broken}, bad, api.ErrCharNodes, 1},
		{[]api.Node{sequence(0x00400100, 1), item(1), named("")}, "", api.ErrCharNodes, 2},
		{[]api.Node{sequence(0x00400100, 1), item(2), named("")}, "", api.ErrCharNodes, 2},
		{[]api.Node{sequence(0x00400100, 1), item(2), name("")}, "", api.ErrCharNodes, 3},
		{[]api.Node{{Tag: api.TagCharset, VR: api.VRItem}}, "", api.ErrCharNodes, 0},
		{nil, bad, api.ErrCharTerm, 0},
		{[]api.Node{name("a"), name("\xFF")}, bad, api.ErrCharTerm, 2},
		{[]api.Node{name("a")}, `\`, api.ErrCharTerm, 1},
		{[]api.Node{name("a")}, `ISO_IR 100\ISO 2022 IR 101`, api.ErrCharAlone, 1},
		{[]api.Node{name("a")}, `\ISO 2022 IR 101\ISO 2022 IR 101`, api.ErrCharTwice, 1},
		{[]api.Node{name("a")}, `\\\\\\`, api.ErrCharMany, 1},
		{[]api.Node{name("a"), name("b\xFF"), name("\xFF")}, "", api.ErrCharRune, 1},
		{[]api.Node{name("ł"), name("b\n")}, "ISO_IR 100", api.ErrCharRune, 1},
		{[]api.Node{name("a"), name("b\n")}, "ISO_IR 192", api.ErrCharRune, 1},
		{[]api.Node{name("a"), name(filled(api.MaxCharBytes+1, "\xFF"))}, "ISO_IR 192", api.ErrCharLong, 1},
		{[]api.Node{name("a"), name(filled(api.MaxCharBytes+1, "\xFF"))}, "", api.ErrCharLong, 1},
	} {
		wantNotExpressed(t, x.nodes, x.cs, x.code, x.at)
	}
	// The set that is taken is the one whose refusal is told: the first text can't be said in 100, the second in none.
	wantNotExpressed(t, []api.Node{name("ł"), name("a"), name("\x7F")}, "ISO_IR 100", api.ErrCharRune, 2)
}

func TestMostNodes(t *testing.T) {
	full := slices.Repeat([]api.Node{name("a")}, api.MaxNodes)
	for _, cs := range []string{"", "ISO_IR 6", " "} {
		wantExpressed(t, full, cs, full)
		wantNotExpressed(t, append(slices.Clone(full), name("a")), cs, api.ErrCharNodes, api.MaxNodes)
	}
	for _, cs := range []string{"ISO_IR 100", "ISO 2022 IR 6", "ISO_IR 192"} {
		wantNotExpressed(t, full, cs, api.ErrCharNodes, api.MaxNodes)
		wantExpressed(t, full[1:], cs, append([]api.Node{named(cs)}, full[1:]...))
	}
	wide := append(slices.Clone(full[1:]), name("é"))
	wantNotExpressed(t, wide, "", api.ErrCharNodes, api.MaxNodes)
	wantExpressed(t, wide[1:], "", append([]api.Node{named("ISO_IR 192")}, wide[1:]...))
	over := slices.Repeat([]api.Node{name("a")}, api.MaxNodes+5)
	wantNotExpressed(t, append(slices.Clone(over), name("\xFF")), "", api.ErrCharRune, len(over))
	wantNotExpressed(t, over, "ISO_IR 13", api.ErrCharTerm, len(over))
	wantNotExpressed(t, append(slices.Clone(over), item(0)), "", api.ErrCharNodes, len(over))
}

// TestExpressedIsUnified: P4.13 and P4.14, over whatever Unify gives.
func TestExpressedIsUnified(t *testing.T) {
	rng := rand.New(rand.NewSource(413))
	values := []string{
		"", "ISO_IR 6", "ISO_IR 100", "ISO_IR 144", "ISO_IR 192", "ISO 2022 IR 6", `ISO 2022 IR 100\ISO 2022 IR 144`, `\ISO 2022 IR 101`,
		`\ISO 2022 IR 144\ISO 2022 IR 101\ISO 2022 IR 148`,
	}
	seen := map[string]int{}
	for range 20000 {
		raw, _ := grown(rng, 3)
		nodes, err := charset.Unify(raw)
		if err != nil {
			continue
		}
		cs := values[rng.Intn(len(values))]
		said, err := charset.Express(nodes, cs)
		if err != nil {
			t.Fatalf("P4.8: Express(%s, %q): %v", shown(nodes), cs, err)
		}
		back, err := charset.Unify(said)
		if err != nil || !slices.Equal(back, nodes) {
			t.Fatalf("P4.13: %s is %s, that is %s, %v", shown(nodes), shown(said), shown(back), err)
		}
		holdTaken(t, nodes, cs, said, seen)
	}
	if len(seen) < 10 {
		t.Errorf("only %v were taken", seen)
	}
}

// holdTaken looks whether the set that was asked for was taken if it can say all, and ISO_IR 192 else.
func holdTaken(t *testing.T, nodes []api.Node, cs string, said []api.Node, seen map[string]int) {
	t.Helper()
	s, err := charset.New(strings.Split(cs, `\`))
	if err != nil {
		t.Fatal(err)
	}
	want := strings.Join(s.Terms(), `\`)
	for _, n := range nodes {
		for _, r := range n.Value {
			if !s.Has(r) {
				want = "ISO_IR 192"
			}
		}
	}
	got := "ISO_IR 6"
	for _, n := range said {
		if n.Tag == api.TagCharset {
			got = n.Value
		}
	}
	if got != want {
		t.Fatalf("P4.8: Express(%s, %q) took %q, not %q", shown(nodes), cs, got, want)
	}
	seen[cs+" "+got]++
}
