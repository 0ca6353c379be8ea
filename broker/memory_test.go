package broker_test

import (
	"slices"
	"testing"

	"modality/api"
	"modality/broker"
)

// What is handed in has spare room with something in it; what is handed out is written over, spare room included.

func roomy[T any](list []T, room T) []T {
	return append(slices.Clone(list), room)[:len(list)]
}

// roomKept tells whether a list and the room behind it are as they were.
func roomKept[T any](list, was []T, room T) bool {
	return same(append([]T(nil), list...), append([]T(nil), was...)) && same(list[:len(list)+1][len(list)], room)
}

func smear[T any](list []T, with T) {
	for i := range list[:cap(list)] {
		list[:cap(list)][i] = with
	}
}

func smearOuts(outs []api.Out) {
	for _, o := range outs {
		smear(o.Data, 0xEE)
	}
	smear(outs, api.Out{Kind: 99})
}

// copiedOuts are Outs in memory of their own.
func copiedOuts(outs []api.Out) []api.Out {
	var list []api.Out
	for _, o := range outs {
		o.Data = append([]byte(nil), o.Data...)
		list = append(list, o)
	}
	return list
}

func smearState(st api.State) {
	for _, p := range st.Perfs {
		smear(p.Data, api.Node{Value: "smeared"})
	}
	smear(st.Perfs, api.Perf{UID: "smeared"})
	smear(st.Steps, api.Step{ID: "smeared"})
}

func smearImage(img api.DiskImage) {
	for _, n := range img.Nodes {
		smear(n.Held, 0xEE)
		for _, c := range n.Changes {
			smear(c.Data, 0xEE)
		}
		smear(n.Changes, api.DiskChange{Cut: true})
	}
	smear(img.Nodes, api.DiskNode{Id: 99})
	smear(img.Dir, api.DiskLink{Name: "smeared"})
	smear(img.Turns, api.DiskTurn{Name: "smeared"})
}

// TestMemory: a server that is handed lists with spare room, which are then written over, and whose answers are written over, does as its twin.
func TestMemory(t *testing.T) {
	c := wideConfig()
	c.Callers = roomy([]string{"CT1", "CT2"}, "spare")
	img := diskOf(t, scheduled("A", "B")).Image()
	b := begun(t, c, img)
	if !roomKept(c.Callers, []string{"CT1", "CT2"}, "spare") || !same(img, diskOf(t, scheduled("A", "B")).Image()) {
		t.Error("DOC.md, Memory: Start has changed what it was handed")
	}
	smear(c.Callers, "smeared")
	smearImage(img)
	c.Callers = []string{"CT1", "CT2"}
	twin := begun(t, c, diskOf(t, scheduled("A", "B")).Image())
	var kept, wanted [][]api.Out
	for i, a := range someScript() {
		handed := a
		handed.Data = roomy(a.Data, 0x77)
		handed.Keeps.Files = roomy(a.Keeps.Files, api.DiskKeep{Id: 77})
		kept, wanted = append(kept, do(t, b, handed)), append(wanted, copiedOuts(do(t, twin, a)))
		if !roomKept(handed.Data, a.Data, 0x77) || !roomKept(handed.Keeps.Files, a.Keeps.Files, api.DiskKeep{Id: 77}) {
			t.Fatalf("DOC.md, Memory: Act %d has changed", i)
		}
		smear(handed.Data, 0xEE)
		smear(handed.Keeps.Files, api.DiskKeep{Id: 1, Units: 3})
		for j := range kept {
			if !same(kept[j], wanted[j]) {
				t.Fatalf("DOC.md, Memory: behind Act %d the Outs of Act %d are %s, not %s", i, j, shown(kept[j]), shown(wanted[j]))
			}
		}
		if i%2 == 0 {
			for _, outs := range kept {
				smearOuts(outs)
			}
			kept, wanted = nil, nil
		}
		smearState(b.State())
		smearImage(b.Disk())
		smear(b.Line(0).Contexts, api.Context{Id: 1, Class: "smeared"})
		smear(b.Line(2).Contexts, api.Context{Id: 1, Class: "smeared"})
		if !same(lookAll(b), lookAll(twin)) {
			t.Fatalf("DOC.md, Memory: behind Act %d: %s, not %s", i, shown(lookAll(b)), shown(lookAll(twin)))
		}
	}
}

// TestMemoryKeeps: the Keeps of a fuse are kept as they were told.
func TestMemoryKeeps(t *testing.T) {
	b := begun(t, config(), fresh())
	keeps := all()
	do(t, b, fuse(1, keeps))
	smear(keeps.Files, api.DiskKeep{})
	do(t, b, fed(ordering("M1", api.OrderNew, row("A"))), start())
	hasState(t, "DOC.md, Memory", b, ordered("M1", "A"))
}

// TestMemoryCallers: who may call is kept as it was told.
func TestMemoryCallers(t *testing.T) {
	c := config()
	c.Callers = []string{"CT1"}
	b := begun(t, c, fresh())
	c.Callers[0] = "X"
	associate(t, b, 0, 64)
}

// TestMemoryApart: no two lists of one answer share memory.
func TestMemoryApart(t *testing.T) {
	img := diskOf(t, scheduled("A", "B")).Image()
	whole, err := broker.Run(wideConfig(), img, someScript())
	if err != nil {
		t.Fatal(err)
	}
	again, err := broker.Run(wideConfig(), img, someScript())
	if err != nil {
		t.Fatal(err)
	}
	for i := range whole {
		for j := range whole[i] {
			smear(whole[i][j].Data, 0xEE)
			whole[i][j].Data = again[i][j].Data
			if !same(whole, again) {
				t.Fatalf("DOC.md, Memory: Out %d of Act %d shares memory with another", j, i)
			}
		}
		smear(whole[i], api.Out{Kind: 99})
		whole[i] = again[i]
		if !same(whole, again) {
			t.Fatalf("DOC.md, Memory: the Outs of Act %d share memory with others", i)
		}
	}
}
