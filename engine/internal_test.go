package engine

import (
	"testing"

	"modality/api"
)

// What no script leads to, since a scanner and its line are always of one mind when all is quiet: the wire is there all the same.

func begun(t *testing.T, lines string) *player {
	t.Helper()
	r, err := read("server RIS 4 3 20 2000 8\n" + lines)
	if err != nil {
		t.Fatal(err)
	}
	p, err := begin(r.script, r.server)
	if err != nil {
		t.Fatal(err)
	}
	return p
}

const two = "scanner 9 CT1 RIS 0 5 implicit verify\nscanner 2 CT1 RIS 0 2 implicit verify\n"

// TestLineThatIsNotIdle: a scanner that asks for a connection on such a line is told that there is none (P18.3).
func TestLineThatIsNotIdle(t *testing.T) {
	p := begun(t, two)
	p.server.Do(api.Act{Kind: api.ALink, Line: 2})
	p.happen(api.Hap{Line: 7, Kind: api.HapDo, At: 2, Do: api.ScuDo{Kind: api.DoConnect}})
	if got := string(p.report); got != "7: scanner 2 is told broken\n" {
		t.Errorf("P18.3: %q", got)
	}
	if sta := p.server.Line(2).Sta; sta != 2 {
		t.Errorf("P18.3: the line is in Sta%d", sta)
	}
	p.happen(api.Hap{Line: 8, Kind: api.HapAct, Act: api.Act{Kind: api.ATick, Count: 3}})
	if sta := p.server.Line(2).Sta; sta != 1 {
		t.Errorf("P18.3: behind its ticks the line is in Sta%d", sta)
	}
}

// TestScannersTicks: each tick is one of each scanner's too, and what comes of it is carried (P18.3).
func TestScannersTicks(t *testing.T) {
	p := begun(t, two)
	for _, n := range []int{9, 2} {
		s := p.scanners[n]
		s.Do(api.ScuDo{Kind: api.DoConnect})
		s.Opened()
		s.Do(api.ScuDo{Kind: api.DoAbort})
	}
	tick := func(count, nine, two int) {
		t.Helper()
		p.happen(api.Hap{Line: 7, Kind: api.HapAct, Act: api.Act{Kind: api.ATick, Count: count}})
		if a, b := p.scanners[9].State().Sta, p.scanners[2].State().Sta; a != nine || b != two {
			t.Errorf("P18.3: behind %d ticks: Sta%d and Sta%d", count, a, b)
		}
	}
	tick(1, 13, 13)
	p.server.Do(api.Act{Kind: api.ALink, Line: 2}) // which the scanner's end of the connection drops
	tick(1, 13, 1)
	if sta := p.server.Line(2).Sta; sta != 1 {
		t.Errorf("P18.3: the line is in Sta%d", sta)
	}
	tick(2, 13, 1)
	tick(100, 1, 1)
}

// TestWireIsFirstInFirstOut: what comes out is carried behind all that came out ahead of it (P18.3).
func TestWireIsFirstInFirstOut(t *testing.T) {
	p := begun(t, two)
	var got []int
	note := func(n int, more ...parcel) parcel {
		return parcel{arrive: func(p *player, _ parcel) {
			got = append(got, n)
			for _, x := range more {
				p.put(x)
			}
		}}
	}
	p.put(note(1, note(4, note(8)), note(5)))
	p.put(note(2))
	p.put(note(3, note(6, note(9, note(10))), note(7)))
	p.carry()
	for i, n := range got {
		if n != i+1 {
			t.Fatalf("P18.3: %v", got)
		}
	}
	if len(got) != 10 || len(p.coming) != 0 {
		t.Errorf("P18.3: %v", got)
	}
}

// TestDownIsToldFirst: the power that goes is told as it goes, and carried when its turn comes (P18.3).
func TestDownIsToldFirst(t *testing.T) {
	p := begun(t, two)
	for _, n := range []int{9, 2} {
		p.happen(api.Hap{Line: 1, Kind: api.HapDo, At: n, Do: api.ScuDo{Kind: api.DoConnect}})
	}
	p.report = nil
	p.ask(9, api.ScuDo{Kind: api.DoEcho, Id: 1})
	p.carryOne(t) // its answer is on the wire
	p.happen(api.Hap{Line: 4, Kind: api.HapAct, Act: api.Act{Kind: api.APower}})
	if got := string(p.report); got != "4: down\n4: scanner 9 answer 1 0000\n4: scanner 2 is told broken\n4: scanner 9 is told broken\n" {
		t.Errorf("P18.3: %q", got)
	}
}

// carryOne carries what is on the wire now, and nothing that comes of it.
func (p *player) carryOne(t *testing.T) {
	t.Helper()
	wire := p.coming
	p.coming = nil
	for _, x := range wire {
		x.arrive(p, x)
	}
}
