package broker

import "modality/api"

// Disk tells the disk as plain data (P16.9).
func (b *Broker) Disk() api.DiskImage {
	if !b.made() {
		return api.DiskImage{}
	}
	return b.disk.Image()
}

// State tells what the server keeps (P16.9).
func (b *Broker) State() api.State {
	if !b.Up() {
		return api.State{}
	}
	return b.store.State()
}

// Line tells of a line (P16.9).
func (b *Broker) Line(n int) api.LineLook {
	if !b.made() {
		return api.LineLook{}
	}
	if !isLine(n) || b.lines[n].isIdle() {
		return api.LineLook{Sta: staIdle}
	}
	l := &b.lines[n]
	return api.LineLook{
		Sta:      l.provider.State().Sta,
		Leaving:  l.leaving,
		Contexts: append([]api.Context(nil), l.contexts...),
		Most:     l.most,
		Queue:    l.service.Queue(),
		Query:    l.service.Running(),
		Held:     b.Held(n),
		Owed:     b.Owed(n),
	}
}

// Held tells how many bytes a line holds (P16.9). What a line does not have holds none.
func (b *Broker) Held(n int) int {
	if !b.made() || !isLine(n) {
		return 0
	}
	l := &b.lines[n]
	return l.stream.Held() + l.joiner.Held() + l.service.Held()
}

// Owed tells how many turns a line's requests want (P16.9).
func (b *Broker) Owed(n int) int {
	if !b.made() || !isLine(n) {
		return 0
	}
	return b.lines[n].service.Owed()
}

// Up tells whether the server is up (P16.9).
func (b *Broker) Up() bool { return b.made() && b.store != nil }
