package broker_test

import (
	"testing"

	"modality/api"
	"modality/broker"
)

// uses says by the document which fields a kind uses (L Line, C Count, D Data, K Keeps), and the greatest Count.
var uses = map[int]struct {
	fields string
	most   int
}{
	api.ALink:     {"L", 0},
	api.AData:     {"LD", 0},
	api.ADrop:     {"L", 0},
	api.AFeedLink: {"", 0},
	api.AFeed:     {"D", 0},
	api.ATurn:     {"C", 100000},
	api.ATick:     {"C", 100000},
	api.ARoom:     {"C", 1 << 30},
	api.AFuse:     {"CK", 1 << 30},
	api.APower:    {"K", 0},
	api.AStart:    {"", 0},
}

// firstWrong is the second reading of P16.2: the field for which an Act is refused.
func firstWrong(a api.Act) int {
	u, ok := uses[a.Kind]
	if !ok {
		return 1
	}
	has := map[rune]bool{}
	for _, r := range u.fields {
		has[r] = true
	}
	for _, reason := range []struct {
		holds bool
		at    int
	}{
		{has['L'] && (a.Line < 0 || a.Line > 15), 2},
		{has['C'] && (a.Count < 0 || a.Count > u.most), 3},
		{!has['L'] && a.Line != 0, 2},
		{!has['C'] && a.Count != 0, 3},
		{!has['D'] && len(a.Data) != 0, 4},
		{!has['K'] && (len(a.Keeps.Files) != 0 || a.Keeps.Dir != 0), 5},
	} {
		if reason.holds {
			return reason.at
		}
	}
	return 0
}

// someActs are Acts with every mix of such fields.
func someActs() []api.Act {
	var list []api.Act
	for _, kind := range []int{-1 << 62, -1, 0, 1, 2, 3, 4, 5, 6, 7, 8, 9, 10, 11, 12, 13, 1 << 62} {
		for _, line := range []int{0, 1, 15, 16, -1, -1 << 62, 1 << 62} {
			for _, count := range []int{0, 1, 2, 100000, 100001, 1 << 30, 1<<30 + 1, -1, -1 << 62, 1 << 62} {
				for _, b := range [][]byte{nil, {}, {0}} {
					for _, keeps := range []api.PowerCut{{}, {Files: []api.DiskKeep{}}, {Files: []api.DiskKeep{{}}}, {Dir: 1}, {Dir: -1}} {
						list = append(list, api.Act{Kind: kind, Line: line, Count: count, Data: b, Keeps: keeps})
					}
				}
			}
		}
	}
	return list
}

// TestActRefused: every mix of fields is refused by its first reason, or not, whether the server is up or down.
func TestActRefused(t *testing.T) {
	up := begun(t, config(), fresh())
	down := begun(t, config(), fresh())
	do(t, down, power(none()))
	for _, a := range someActs() {
		at := firstWrong(a)
		if at == 0 {
			continue
		}
		for _, b := range []*broker.Broker{up, down} {
			if outs, err := b.Do(a); outs != nil || !isFault(err, at, api.ErrBrokerAct) {
				t.Fatalf("P16.2: %s: %v, not at %d", shown(a), err, at)
			}
		}
	}
}

// TestActTaken: every other mix is taken.
func TestActTaken(t *testing.T) {
	b := begun(t, config(), fresh())
	taken := map[int]int{}
	for _, a := range someActs() {
		if firstWrong(a) != 0 {
			continue
		}
		taken[a.Kind]++
		if _, err := b.Do(a); err != nil {
			t.Fatalf("P16.2: %s: %v", shown(a), err)
		}
	}
	if len(taken) != 11 {
		t.Errorf("the test's kinds: %v", taken)
	}
}

// TestActRefusedChangesNothing: of a server with much under way.
func TestActRefusedChangesNothing(t *testing.T) {
	b := over(t, scheduled("A", "B"))
	associate(t, b, 0, 64)
	do(t, b, data(0, said(find(1), echo(2)), said(echo(3))[:9]), link(1), fuse(50, all()))
	order := ordering("M1", api.OrderNew, row("C"))
	do(t, b, fed(order[:30]))
	was := lookAll(b)
	for _, a := range someActs() {
		if firstWrong(a) == 0 {
			continue
		}
		if _, err := b.Do(a); err == nil {
			t.Fatalf("P16.2: %s is taken", shown(a))
		}
	}
	if got := lookAll(b); !same(got, was) {
		t.Fatalf("P16.2: a refused Act changed %s into %s", shown(was), shown(got))
	}
	gives(t, "P16.2: the order goes on", b, fed(order[30:]), acks("M1", "AA", ""))
	gives(t, "P16.2: the query goes on", b, turn(1), answers(0, 64, match(find(1), "A"))...)
}

// looks is all that can be seen of a server.
type looks struct {
	Up    bool
	State api.State
	Disk  api.DiskImage
	Lines [18]api.LineLook
}

func lookAll(b *broker.Broker) looks {
	l := looks{Up: b.Up(), State: b.State(), Disk: b.Disk()}
	for n := range l.Lines {
		l.Lines[n] = b.Line(n - 1)
	}
	return l
}

// TestActDown: while the server is down all but three kinds are nothing.
func TestActDown(t *testing.T) {
	b := over(t, scheduled("A"))
	associate(t, b, 0, 0)
	gives(t, "P16.7", b, power(none()), downs())
	was := lookAll(b)
	order := ordering("M1", api.OrderNew, row("C"))
	for _, a := range []api.Act{link(0), link(15), data(0, said(echo(1))), data(3, laid(asking(0))), drop(0), feedLink(), fed(order), turn(0), turn(9), tick(0), tick(100000), power(all()), power(none())} {
		gives(t, "P16.2: down", b, a)
		if got := lookAll(b); !same(got, was) {
			t.Fatalf("P16.2: down: %s changed %s into %s", shown(a), shown(was), shown(got))
		}
	}
	gives(t, "P16.2: ARoom is done", b, room(77))
	if b.Disk().Config.Blocks != 77 {
		t.Error("P16.2: down: ARoom")
	}
	gives(t, "P16.2: AFuse is done", b, fuse(99, none()))
	if b.Disk().Left != 99 {
		t.Error("P16.2: down: AFuse")
	}
	gives(t, "P16.2: AStart is done", b, start(), ups())
	for n := range 16 {
		isIdle(t, "P16.2: nothing was begun", b, n)
	}
	gives(t, "P16.2: nothing was half read", b, fed(order[9:]))
}

// TestNotMade: a server that Start did not give.
func TestNotMade(t *testing.T) {
	for _, b := range []*broker.Broker{nil, {}} {
		for _, a := range someActs()[:3000] {
			if outs, err := b.Do(a); outs != nil || !isFault(err, 0, api.ErrZero) {
				t.Fatalf("P16.9: Do: %v", err)
			}
		}
		for kind := range 12 {
			if outs, err := b.Do(api.Act{Kind: kind}); outs != nil || !isFault(err, 0, api.ErrZero) {
				t.Fatalf("P16.9: Do: %v", err)
			}
		}
		if b.Up() || !same(b.State(), api.State{}) || !same(b.Disk(), api.DiskImage{}) {
			t.Error("P16.9: no server tells something")
		}
		for _, n := range []int{-1, 0, 15, 16, 1 << 62, -1 << 62} {
			if !same(b.Line(n), api.LineLook{}) || b.Held(n) != 0 || b.Owed(n) != 0 {
				t.Errorf("P16.9: no server tells of line %d", n)
			}
		}
	}
}
