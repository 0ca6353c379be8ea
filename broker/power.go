package broker

import (
	"errors"
	"slices"

	"modality/api"
	"modality/store"
)

// powerGone is what an Act gives up with when the power goes, however deep inside; Do cuts the disk for it.
type powerGone struct{ keeps api.PowerCut }

func (b *Broker) losePower(keeps api.PowerCut) { panic(powerGone{keeps}) }

// needPower gives up, if a layer has refused because the power is off.
func (b *Broker) needPower(err error) {
	if errors.Is(err, api.ErrStoreOff) || errors.Is(err, api.ErrJournalOff) {
		b.losePower(b.fuse)
	}
}

// goDown leaves nothing of the server but its disk (P16.7).
func (b *Broker) goDown(keeps api.PowerCut) {
	b.disk.Cut(keeps)
	b.fuse = api.PowerCut{}
	b.store = nil
	b.beginFeed(api.Act{})
	b.beginLines()
	b.put(wentDown{})
}

// power: the power is cut now (P16.7).
func (b *Broker) power(a api.Act) { b.losePower(a.Keeps) }

// layFuse: the power will fail at a write (P16.7). Where it is off already, what that cut keeps is settled.
func (b *Broker) layFuse(a api.Act) {
	if !b.isOff() {
		b.fuse = api.PowerCut{Files: slices.Clone(a.Keeps.Files), Dir: a.Keeps.Dir}
	}
	b.disk.Fuse(a.Count)
}

// isOff tells whether the disk's power is off: then it says so ahead of all else, also of a name that is none.
func (b *Broker) isOff() bool {
	_, reason := b.disk.Size("")
	return reason == api.ErrDiskOff
}

// room: the disk has so many blocks from now on (P16.7).
func (b *Broker) room(a api.Act) { b.disk.Quota(a.Count) }

// start: a server that is down begins again (P16.7).
func (b *Broker) start(api.Act) {
	if b.Up() {
		return
	}
	s, err := store.Open(b.disk, b.config.Compact)
	b.needPower(err)
	if err == nil {
		b.store = s
		b.put(cameUp{})
	}
}

// compact takes a new base, if it is time and there is room.
func (b *Broker) compact() { b.needPower(b.store.Compact()) }
