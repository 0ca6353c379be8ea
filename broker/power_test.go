package broker_test

import (
	"fmt"
	"slices"
	"testing"

	"modality/api"
	"modality/broker"
	"modality/disk"
)

// busyServer has everything under way: an association with a query, one that is leaving, links, half-read messages and orders.
func busyServer(t *testing.T) *broker.Broker {
	t.Helper()
	b := over(t, scheduled("A", "B"))
	associate(t, b, 0, 64)
	associate(t, b, 3, 64)
	do(t, b, data(0, said(find(1), echo(2)), said(echo(3))[:30]), data(3, said(find(1)), releaseRQ()), link(5), data(5, []byte{1, 0}), link(9), data(9, unknownPdu()))
	do(t, b, fed(ordering("M1", api.OrderNew, row("C"))[:30]))
	return b
}

// isDown: nothing is left of a server but its disk.
func isDown(t *testing.T, what string, b *broker.Broker) {
	t.Helper()
	if b.Up() || !same(b.State(), api.State{}) {
		t.Fatalf("%s: it is not down", what)
	}
	for n := -1; n < 17; n++ {
		isIdle(t, what, b, n)
		if b.Held(n) != 0 || b.Owed(n) != 0 {
			t.Fatalf("%s: line %d holds %d, owes %d", what, n, b.Held(n), b.Owed(n))
		}
	}
}

// TestPower: all lines are idle, the feed is as behind AFeedLink, the store's memory is gone.
func TestPower(t *testing.T) {
	b := busyServer(t)
	gives(t, "P16.7: the power", b, power(none()), downs())
	isDown(t, "P16.7", b)
	gives(t, "P16.7: begun again", b, start(), ups())
	if !b.Up() {
		t.Fatal("P16.7: it is not up")
	}
	hasState(t, "P16.7: begun again", b, scheduled("A", "B"))
	for n := range 16 {
		isIdle(t, "P16.7: begun again", b, n)
	}
	gives(t, "P16.7: nothing runs", b, turn(5))
	gives(t, "P16.7: no timer runs", b, tick(1000))
	gives(t, "P16.7: no connection is there", b, data(0, said(echo(3))[30:]))
	gives(t, "P16.7: no order is half read", b, fed(ordering("M1", api.OrderNew, row("C"))[30:]))
	associate(t, b, 0, 64)
	gives(t, "P16.7: the queries from before are gone", b, turn(5))
	gives(t, "P16.7: all begins anew", b, data(0, said(echo(3))), answers(0, 64, answer(echo(3), 0))...)
	gives(t, "P16.7: all begins anew", b, fed(ordering("M1", api.OrderNew, row("C"))), acks("M1", "AA", ""))
	gives(t, "P16.7: AStart of one that is up", b, start())
	isIn(t, "P16.7: AStart of one that is up", b, 0, 6)
}

// TestPowerKeeps: the disk is cut with the Act's own Keeps, not with a fuse's.
func TestPowerKeeps(t *testing.T) {
	// A journal that has slot.a alone: its first compaction makes slot.b, and is put off: so something is not held.
	pending := func() *broker.Broker {
		c := config()
		c.Compact = 1
		b := begun(t, c, diskOf(t, many(40)).Image())
		do(t, b, room(usedBy(t, b)+3), fed(ordering("M1", api.OrderNew, row("Z1"))))
		if img := b.Disk(); len(img.Turns) != 1 {
			t.Fatalf("the test's disk has nothing that is not held: %s", shown(img.Turns))
		}
		return b
	}
	for _, keeps := range []api.PowerCut{none(), all(), {Dir: 1}, {Dir: -5}, {Files: []api.DiskKeep{{Id: 2, Units: 9}, {Id: 99, Units: -1}}}} {
		for _, fused := range []bool{false, true} {
			b := pending()
			d, err := disk.Load(b.Disk())
			if err != nil {
				t.Fatal(err)
			}
			d.Cut(keeps)
			if fused {
				do(t, b, fuse(7, api.PowerCut{Dir: 1 - min(keeps.Dir, 1)}))
			}
			gives(t, "P16.7: the power", b, power(keeps), downs())
			if got := b.Disk(); !same(got, d.Image()) {
				t.Fatalf("P16.7: cut with %s: %s, not %s", shown(keeps), shown(got), shown(d.Image()))
			}
			gives(t, "P16.7: begun again", b, start(), ups())
		}
	}
}

// writesOf tells how many disk writes an Act does.
func writesOf(t *testing.T, b *broker.Broker, a api.Act) int {
	t.Helper()
	do(t, b, fuse(1000, none()), a)
	return 1000 - b.Disk().Left
}

// TestFuseOrder: at each write of an order and of the compaction behind it the power may fail.
func TestFuseOrder(t *testing.T) {
	c := config()
	c.Compact = 2
	begin := func() *broker.Broker {
		b := begun(t, c, fresh())
		do(t, b, fed(ordering("M1", api.OrderNew, row("A"))))
		return b
	}
	second := fed(ordering("M2", api.OrderNew, row("B")), ordering("M3", api.OrderNew, row("C")))
	total := writesOf(t, begin(), fed(ordering("M2", api.OrderNew, row("B"))))
	if total != 2+5 {
		t.Fatalf("the test's order has %d writes", total)
	}
	for writes := range total {
		for _, keeps := range []api.PowerCut{none(), all()} {
			b := begin()
			gives(t, "P16.7: AFuse", b, fuse(writes, keeps))
			if writes < 2 {
				gives(t, "P16.8: ahead of the acknowledgement", b, second, downs())
			} else {
				gives(t, "P16.8: behind it", b, second, acks("M2", "AA", ""), downs())
			}
			isDown(t, "P16.7", b)
			if b.Disk().Left != -1 {
				t.Error("P16.7: a cut takes the fuse off")
			}
			gives(t, "P16.7: begun again", b, start(), ups())
			if writes >= 2 || writes == 1 && len(keeps.Files) > 0 {
				hasState(t, "P16.7: it is there", b, ordered("M2", "A", "B"))
			} else {
				hasState(t, "P16.7: it is not there", b, ordered("M1", "A"))
			}
			gives(t, "W7: sent again", b, fed(ordering("M2", api.OrderNew, row("B"))), acks("M2", "AA", ""))
			hasState(t, "W7: sent again", b, ordered("M2", "A", "B"))
		}
	}
	b := begin()
	do(t, b, fuse(total, none()))
	gives(t, "P16.7: as many writes as two orders want less two", b, second, acks("M2", "AA", ""), downs())
	b = begin()
	do(t, b, fuse(total+2, none()))
	gives(t, "P16.7: as many writes as they want", b, second, acks("M2", "AA", ""), acks("M3", "AA", ""))
	if !b.Up() || b.Disk().Left != 0 {
		t.Error("P16.7: the power is off, but nothing has met it")
	}
	gives(t, "P16.7: what writes nothing goes on", b, link(0))
	gives(t, "P16.8: a message that changes nothing", b, fed(ordering("M3", api.OrderNew, row("C"))), acks("M3", "AA", ""))
	gives(t, "P16.7: the next write", b, fed(ordering("M4", api.OrderCancel, row("C"))), downs())
}

// TestFuseRequest: at each write of an N-CREATE and an N-SET, in the midst of a chunk.
func TestFuseRequest(t *testing.T) {
	first, second := create(2, "1.9", plain("A")), set(3, "1.9", finish("COMPLETED"))
	for writes := range 5 {
		for _, keeps := range []api.PowerCut{none(), all()} {
			b := over(t, scheduled("A"))
			associate(t, b, 6, 64)
			do(t, b, fuse(writes, keeps))
			want := answers(6, 64, answer(echo(1), 0))
			states := 0 // how many changes are there behind the start
			if writes >= 2 {
				want = append(want, answers(6, 64, answer(first, 0))...)
				states = 1
			}
			if writes < 4 {
				want = append(want, downs())
				if writes%2 == 1 && len(keeps.Files) > 0 {
					states++
				}
			} else {
				want = append(want, answers(6, 64, answer(second, 0), answer(echo(4), 0))...)
				states = 2
			}
			gives(t, "P16.5: the power fails at a write", b, data(6, said(echo(1), first, second, echo(4))), want...)
			if writes < 4 {
				isDown(t, "P16.7", b)
				gives(t, "P16.7", b, start(), ups())
			}
			st := b.State()
			got := len(st.Perfs)
			if got == 1 && st.Perfs[0].State == api.PerfCompleted {
				got = 2
			}
			if got != states {
				t.Fatalf("P16.7: behind %d writes, keeping %v: %d changes, not %d", writes, len(keeps.Files) > 0, got, states)
			}
		}
	}
}

// TestFuseTwice: a second AFuse takes the place of the first, its Keeps too, as long as the power is on.
func TestFuseTwice(t *testing.T) {
	order := fed(ordering("M1", api.OrderNew, row("A")))
	for name, x := range map[string]struct {
		first, second api.Act
		there         bool
	}{
		"the second keeps all":     {fuse(9, none()), fuse(1, all()), true},
		"the second keeps nothing": {fuse(1, all()), fuse(1, none()), false},
		"the first is off at once": {fuse(0, none()), fuse(1, all()), false},
	} {
		b := begun(t, config(), fresh())
		do(t, b, x.first, x.second)
		gives(t, "P16.7: "+name, b, order, downs())
		do(t, b, start())
		if got := len(b.State().Steps) == 1; got != x.there {
			t.Errorf("P16.7: %s: it is there: %v", name, got)
		}
	}
	b := begun(t, config(), fresh())
	was := b.Disk()
	do(t, b, fuse(0, all()), fuse(100, none()))
	if b.Disk().Left != 0 {
		t.Error("P16.7: a fuse behind one that has burnt")
	}
	gives(t, "P16.7: off", b, order, downs())
	if !same(b.Disk(), was) {
		t.Error("P16.7: nothing was written")
	}
}

// TestFuseKeepsSettled: with the power off already, the Keeps of an AFuse are not kept in mind.
func TestFuseKeepsSettled(t *testing.T) {
	c := config()
	c.Compact = 1
	for _, first := range []bool{false, true} {
		b := begun(t, c, diskOf(t, many(40)).Image())
		do(t, b, room(usedBy(t, b)+3), fed(ordering("M1", api.OrderNew, row("Z1")))) // slot.b is made, its name is not held
		keeps := map[bool]api.PowerCut{false: none(), true: {Dir: 1}}
		do(t, b, fuse(0, keeps[first]), fuse(0, keeps[!first]), fuse(50, keeps[!first]))
		gives(t, "P16.7: off", b, fed(ordering("M2", api.OrderNew, row("Z2"))), downs())
		want := 1
		if first {
			want = 2
		}
		if got := len(b.Disk().Dir); got != want {
			t.Errorf("P16.7: the first AFuse keeps %v: %d names are there", first, got)
		}
	}
}

// TestFuseOld: behind a power cut the Keeps of an earlier AFuse are forgotten, and so is its count.
func TestFuseOld(t *testing.T) {
	b := begun(t, config(), fresh())
	do(t, b, fuse(1, all()), power(none()), start())
	for i := range 4 {
		gives(t, "P16.7: no fuse any more", b, fed(ordering(fmt.Sprint("M", i), api.OrderNew, row(fmt.Sprint("A", i)))), acks(fmt.Sprint("M", i), "AA", ""))
	}
}

// TestStartFuse: at each write of a start the power may fail: ODown alone, and it stays down; so does a start with the power off.
func TestStartFuse(t *testing.T) {
	torn := func() *broker.Broker { // a slot that is too long, and another that is not yet cleared
		c := config()
		c.Compact = 1
		b := begun(t, c, fresh())
		do(t, b, fuse(5, all()), fed(ordering("M1", api.OrderNew, row("A"))))
		if b.Up() {
			t.Fatal("the test's server is up")
		}
		return b
	}
	b := torn()
	do(t, b, fuse(1000, none()), start())
	total := 1000 - b.Disk().Left
	if total < 4 {
		t.Fatalf("the test's start has %d writes", total)
	}
	for writes := range total {
		for _, keeps := range []api.PowerCut{none(), all()} {
			b := torn()
			gives(t, "P16.7: a fuse while it is down", b, fuse(writes, keeps))
			gives(t, "P16.7: a start that is cut off", b, start(), downs())
			isDown(t, "P16.7: a start that is cut off", b)
			if b.Disk().Left != -1 {
				t.Error("P16.7: a cut takes the fuse off")
			}
			gives(t, "P16.7: begun again", b, start(), ups())
			hasState(t, "P16.7: begun again", b, ordered("M1", "A"))
			was := b.Disk()
			gives(t, "W2: twice", b, power(none()), downs())
			gives(t, "W2: twice", b, start(), ups())
			if !same(b.Disk(), was) {
				t.Error("W2: beginning again twice is beginning again once")
			}
		}
	}
	b = torn()
	do(t, b, fuse(total, none()))
	gives(t, "P16.7: as many writes as it wants", b, start(), ups())
	gives(t, "P16.7: then the power is off", b, fed(ordering("M2", api.OrderNew, row("B"))), downs())
}

// TestStartKeeps: a start that is cut off keeps what the fuse says.
func TestStartKeeps(t *testing.T) {
	for _, keeps := range []api.PowerCut{none(), all()} {
		b := begun(t, config(), fresh())
		do(t, b, fuse(1, api.PowerCut{Files: []api.DiskKeep{{Id: 1, Units: 5}}}), fed(ordering("M1", api.OrderNew, row("A"))))
		torn := b.Disk() // five bytes of a record stand at the end of slot.a
		do(t, b, fuse(1, keeps), start())
		d, err := disk.Load(torn)
		if err != nil {
			t.Fatal(err)
		}
		size, _ := d.Size("slot.a")
		d.Truncate("slot.a", size-5)
		d.Cut(keeps)
		if !same(b.Disk(), d.Image()) {
			t.Errorf("P16.7: %s, not %s", shown(b.Disk()), shown(d.Image()))
		}
	}
}

// TestRoom: ARoom is the disk's quota, whether the server is up or down.
func TestRoom(t *testing.T) {
	b := begun(t, config(), fresh())
	for _, isUp := range []bool{true, false} {
		for count, want := range map[int]int{0: 0, 1: 1, 500: 500, 1 << 16: 1 << 16, 1<<16 + 1: 1 << 16, 1 << 30: 1 << 16} {
			gives(t, "P16.7: ARoom", b, room(count))
			if got := b.Disk().Config.Blocks; got != want {
				t.Errorf("P16.7: ARoom %d: %d blocks", count, got)
			}
			if b.Up() != isUp {
				t.Error("P16.7: ARoom is no start")
			}
		}
		do(t, b, power(none()))
	}
	do(t, b, room(0))
	gives(t, "P16.7: a start needs no room", b, start(), ups())
}

// TestDownInMidst: nothing else of the Act is done: neither the rest of a chunk, nor other turns, lines or orders.
func TestDownInMidst(t *testing.T) {
	b := over(t, scheduled("A"))
	for _, n := range []int{1, 2, 3} {
		associate(t, b, n, 64)
		do(t, b, data(n, said(find(1))))
	}
	do(t, b, data(2, said(create(2, "1.9", plain("A")))), turn(1), fuse(0, none()))
	gives(t, "P16.7: in the midst of a turn", b, turn(7), slices.Concat(answers(1, 64, answer(find(1), 0)), answers(2, 64, answer(find(1), 0)), []api.Out{downs()})...)
	isDown(t, "P16.7", b)
	do(t, b, start())
	hasState(t, "P16.7", b, scheduled("A"))
}
