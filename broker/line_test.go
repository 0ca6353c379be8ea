package broker_test

import (
	"testing"

	"modality/api"
)

// TestLinkDrop: on every line; a link of a line that is not idle, and a drop of one that is, are nothing.
func TestLinkDrop(t *testing.T) {
	b := begun(t, wideConfig(), fresh())
	for n := range 16 {
		gives(t, "P16.3: a drop of an idle line", b, drop(n))
		isIdle(t, "P16.3: a drop of an idle line", b, n)
		gives(t, "P16.3: a link", b, link(n))
		if got := b.Line(n); !same(got, api.LineLook{Sta: 2}) {
			t.Fatalf("P16.3: a link: %s", shown(got))
		}
		for other := range 16 {
			want := 1
			if other <= n {
				want = 2
			}
			isIn(t, "P16.3: the other lines", b, other, want)
		}
	}
	for n := range 16 {
		gives(t, "P16.3: a drop", b, drop(n))
		isIdle(t, "P16.3: a drop", b, n)
	}
}

// TestLinkAgain: a link of a line with a connection leaves it as it is, its timer included.
func TestLinkAgain(t *testing.T) {
	b := begun(t, config(), fresh())
	do(t, b, link(4), tick(2))
	do(t, b, data(4, []byte{1, 0, 0}))
	gives(t, "P16.3: a second link", b, link(4))
	if got := b.Line(4); !same(got, api.LineLook{Sta: 2, Held: 3}) {
		t.Fatalf("P16.3: a second link: %s", shown(got))
	}
	gives(t, "P16.3: the timer goes on", b, tick(1), shuts(4))
	isIdle(t, "P16.3: the timer goes on", b, 4)
}

// TestDropEvery: in every state a drop makes the line idle, without an Out; what is begun anew there knows nothing of it.
func TestDropEvery(t *testing.T) {
	b := over(t, scheduled("A"))
	for sta, ahead := range map[int][]api.Act{
		2:  {link(3), data(3, []byte{4, 0})},
		6:  {link(3), data(3, laid(asking(64)), said(find(1), echo(2)), said(echo(3))[:20])},
		8:  {link(3), data(3, laid(asking(64)), said(find(1)), releaseRQ())},
		13: {link(3), data(3, unknownPdu())},
	} {
		do(t, b, ahead...)
		isIn(t, "the test's line", b, 3, sta)
		gives(t, "P16.3: a drop", b, drop(3))
		isIdle(t, "P16.3: a drop", b, 3)
		gives(t, "P16.3: what ran is gone", b, turn(5))
		gives(t, "P16.3: no timer runs", b, tick(100))
		associate(t, b, 3, 64)
		gives(t, "P16.3: nothing is left of what ran", b, turn(5))
		gives(t, "P16.3: nothing is left of what came before", b, data(3, said(echo(3))), answers(3, 64, answer(echo(3), 0))...)
		do(t, b, drop(3))
	}
}

// TestTimer: ARTIM runs in Sta2 and Sta13, for each line by itself, from the event that begins it.
func TestTimer(t *testing.T) {
	for _, artim := range []int{1, 2, 7, 1000} {
		c := wideConfig()
		c.Artim = artim
		b := begun(t, c, fresh())
		do(t, b, link(1))
		for range artim - 1 {
			gives(t, "P16.6: ahead of its time", b, tick(1))
			isIn(t, "P16.6: ahead of its time", b, 1, 2)
		}
		gives(t, "P16.6: it expires", b, tick(1), shuts(1))
		isIdle(t, "P16.6: it expires", b, 1)
		do(t, b, link(1), data(1, unknownPdu()))
		isIn(t, "P16.6: an aborted line", b, 1, 13)
		gives(t, "P16.6: Sta13, ahead of its time", b, tick(artim-1))
		gives(t, "P16.6: Sta13", b, tick(1), shuts(1))
		isIdle(t, "P16.6: Sta13", b, 1)
	}
}

// TestTimerBegunAgain: with Sta13 the timer begins anew; an association has none.
func TestTimerBegunAgain(t *testing.T) {
	b := over(t, scheduled("A"))
	gives(t, "P16.3", b, link(0))
	do(t, b, tick(4))
	gives(t, "P16.4", b, data(0, laid(asking(0))), sends(0, accepting())...)
	gives(t, "P16.6: an association has no timer", b, tick(100000))
	isIn(t, "P16.6: an association has no timer", b, 0, 6)
	do(t, b, data(0, said(find(1)), releaseRQ()))
	gives(t, "P16.6: nor a line that is leaving", b, tick(100000))
	isIn(t, "P16.6: nor a line that is leaving", b, 0, 8)
	do(t, b, turn(2))
	isIn(t, "P16.6: released", b, 0, 13)
	gives(t, "P16.6: released", b, tick(4))
	gives(t, "P16.6: what comes in Sta13 does not begin the timer again", b, data(0, said(echo(1))))
	gives(t, "P16.6: released", b, tick(1), shuts(0))
	isIdle(t, "P16.6: released", b, 0)
	do(t, b, link(0), tick(4))
	gives(t, "P16.4: a rejection", b, data(0, laid(asking(63))), sends(0, rejecting(1, 1, 1))...)
	gives(t, "P16.6: the timer of Sta13", b, tick(4))
	gives(t, "P16.6: the timer of Sta13", b, tick(1), shuts(0))
}

// TestTicksInOrder: each tick goes through the lines from 0 to 15.
func TestTicksInOrder(t *testing.T) {
	b := begun(t, wideConfig(), fresh())
	do(t, b, link(15), link(7), tick(1), link(0), link(9), tick(1), link(3), tick(0))
	gives(t, "P16.6: line by line", b, tick(100000), shuts(7), shuts(15), shuts(0), shuts(9), shuts(3))
	gives(t, "P16.6: none is left", b, tick(100000))
	do(t, b, link(0), link(1), link(2), link(15))
	gives(t, "P16.6: in one tick", b, tick(5), shuts(0), shuts(1), shuts(2), shuts(15))
}

// TestTickNone: no tick at all is nothing.
func TestTickNone(t *testing.T) {
	c := config()
	c.Artim = 1
	b := begun(t, c, fresh())
	do(t, b, link(0))
	gives(t, "P16.6: no tick", b, tick(0))
	isIn(t, "P16.6: no tick", b, 0, 2)
}
