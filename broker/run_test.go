package broker_test

import (
	"testing"

	"modality/api"
	"modality/broker"
)

// someScript is a script with every kind of Act.
func someScript() []api.Act {
	return []api.Act{
		link(0), data(0, laid(asking(64))), fed(ordering("M1", api.OrderNew, row("C"))), data(0, said(find(1), echo(2))), turn(2), feedLink(), tick(3),
		link(1), tick(9), room(500), fuse(60, all()), turn(9), data(0, said(create(3, "1.9", plain("A")))), data(0, releaseRQ()), drop(0),
		power(none()), link(2), start(), link(2), data(2, laid(asking(0)), said(get(4, "1.9"))), fuse(1, none()), fed(ordering("M2", api.OrderNew, row("D"))), start(), turn(1),
	}
}

// TestRun: the Acts one after the other, and the Outs of each; of a beginning the beginning (W11).
func TestRun(t *testing.T) {
	img := diskOf(t, scheduled("A", "B")).Image()
	script := someScript()
	b := begun(t, wideConfig(), img)
	var want [][]api.Out
	for i := range script {
		if got, err := broker.Run(wideConfig(), img, script[:i]); err != nil || !same(got, want) {
			t.Fatalf("P16.10: the first %d: %s, %v", i, shown(got), err)
		}
		want = append(want, do(t, b, script[i]))
	}
	all, err := broker.Run(wideConfig(), img, script)
	if err != nil || !same(all, want) {
		t.Fatalf("P16.10: %s, %v, not %s", shown(all), err, shown(want))
	}
	kinds := map[int]int{}
	for _, outs := range all {
		if outs != nil && len(outs) == 0 {
			t.Error("DOC.md: a list without an element is nil")
		}
		for _, o := range outs {
			kinds[o.Kind]++
		}
	}
	if len(kinds) != 5 {
		t.Errorf("the test's script has Outs of the kinds %v", kinds)
	}
}

// TestRunNothing: no Acts, no Outs.
func TestRunNothing(t *testing.T) {
	for _, script := range [][]api.Act{nil, {}} {
		if all, err := broker.Run(config(), fresh(), script); all != nil || err != nil {
			t.Errorf("P16.10: %v, %v", all, err)
		}
	}
}

// TestRunRefused: what Start refuses, just so; else the first Act that Do refuses, with Do's fault behind it.
func TestRunRefused(t *testing.T) {
	for _, c := range []api.Config{{}, config()} {
		img := fresh()
		img.Left = 7
		if len(c.Title) > 0 {
			img.Left, img.Next = -1, 0
		}
		_, want := broker.Start(c, img)
		if all, err := broker.Run(c, img, []api.Act{{}}); all != nil || want == nil || !same(err, want) {
			t.Errorf("P16.10: %v, not %v", err, want)
		}
	}
	b := begun(t, wideConfig(), fresh())
	for _, wrong := range []api.Act{{}, {Kind: 12}, link(16), turn(-1), {Kind: api.AStart, Keeps: all()}, {Kind: api.ATick, Count: 1, Data: []byte{1}}} {
		_, behind := b.Do(wrong)
		for _, at := range []int{0, 1, 5, len(someScript())} {
			script := append(someScript(), wrong, api.Act{Kind: -1})
			script[at] = wrong
			all, err := broker.Run(wideConfig(), fresh(), script)
			f, ok := err.(*api.Fault)
			if all != nil || !ok || f.Layer != "broker" || f.At != at || !same(f.Err, behind) {
				t.Errorf("P16.10: %v, not %v at %d", err, behind, at)
			}
		}
	}
}
