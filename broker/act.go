package broker

import "modality/api"

// The fields of an Act, by their numbers.
const (
	partKind = iota + 1
	partLine
	partCount
	partData
	partKeeps
)

// happening is a kind of Act: which fields it uses, and what it does.
type happening struct {
	line     bool
	most     int // the greatest Count; 0: it uses none
	data     bool
	keeps    bool
	whenDown bool // it is something to a server that is down, too
	does     func(*Broker, api.Act)
}

// happenings gives the kinds of Acts: a row's place is its kind's number.
func happenings() [api.AStart + 1]happening {
	return [...]happening{
		api.ALink:     {line: true, does: (*Broker).link},
		api.AData:     {line: true, data: true, does: (*Broker).data},
		api.ADrop:     {line: true, does: (*Broker).drop},
		api.AFeedLink: {does: (*Broker).beginFeed},
		api.AFeed:     {data: true, does: (*Broker).orders},
		api.ATurn:     {most: api.MaxCount, does: (*Broker).turns},
		api.ATick:     {most: api.MaxCount, does: (*Broker).ticks},
		api.ARoom:     {most: api.MaxRoom, whenDown: true, does: (*Broker).room},
		api.AFuse:     {most: api.MaxRoom, keeps: true, whenDown: true, does: (*Broker).layFuse},
		api.APower:    {keeps: true, does: (*Broker).power},
		api.AStart:    {whenDown: true, does: (*Broker).start},
	}
}

// wrongPart tells the number of the field for which an Act is refused; 0, if it is not (P16.2).
func wrongPart(a api.Act) int {
	if !within(a.Kind, api.ALink, api.AStart) {
		return partKind
	}
	h := happenings()[a.Kind]
	switch {
	case h.line && !isLine(a.Line):
		return partLine
	case h.most > 0 && !within(a.Count, 0, h.most):
		return partCount
	case !h.line && a.Line != 0:
		return partLine
	case h.most == 0 && a.Count != 0:
		return partCount
	case !h.data && len(a.Data) > 0:
		return partData
	case !h.keeps && (len(a.Keeps.Files) > 0 || a.Keeps.Dir != 0):
		return partKeeps
	}
	return 0
}

func isLine(n int) bool { return within(n, 0, api.MaxLines-1) }
