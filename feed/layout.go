package feed

import "modality/api"

// The segments that are read.
const (
	nameMSH = "MSH"
	namePID = "PID"
	namePV1 = "PV1"
	nameORC = "ORC"
	nameOBR = "OBR"
	nameZDS = "ZDS"
)

// The segments that a step is read from.
const (
	inPID = iota
	inPV1
	inORC
	inOBR
	inZDS
	allPlaces
)

// places are the numbers of the segments that a step is read from; 0, which is the header's, for one that is not there.
type places [allPlaces]int

// layout is where a message's segments stand: the patient's, and those of each group.
type layout struct {
	patient places
	groups  []places
}

// layout looks whether each segment stands where it may (P11.5).
func (m *message) layout() (layout, flaw) {
	var l layout
	last := nameMSH
	for i, fields := range m.segments[1:] {
		name := fields[0]
		if !isRead(name) {
			continue
		}
		if !mayFollow(name, last) {
			return layout{}, flaw{i + 1, api.ErrFeedSegment}
		}
		l.put(name, i+1)
		last = name
	}
	if last != nameOBR && last != nameZDS {
		return layout{}, flaw{len(m.segments), api.ErrFeedSegment}
	}
	return l, flaw{}
}

// isRead tells whether a segment's name is one of those that may stand in their places alone.
func isRead(name string) bool {
	switch name {
	case nameMSH, namePID, namePV1, nameORC, nameOBR, nameZDS:
		return true
	}
	return false
}

// mayFollow tells whether a segment may stand behind that one, others that are not read aside.
func mayFollow(name, last string) bool {
	switch name {
	case namePID:
		return last == nameMSH
	case namePV1:
		return last == namePID
	case nameORC:
		return last != nameMSH && last != nameORC
	case nameOBR:
		return last == nameORC
	case nameZDS:
		return last == nameOBR
	}
	return false
}

// put takes in a segment that may stand where it does.
func (l *layout) put(name string, number int) {
	switch name {
	case namePID:
		l.patient[inPID] = number
	case namePV1:
		l.patient[inPV1] = number
	case nameORC:
		l.groups = append(l.groups, places{inORC: number})
	case nameOBR:
		l.groups[len(l.groups)-1][inOBR] = number
	case nameZDS:
		l.groups[len(l.groups)-1][inZDS] = number
	}
}

// verb tells what all groups ask for.
func (m *message) verb(groups []places) (int, flaw) {
	first := m.component(groups[0][inORC], 1, 1)
	for _, g := range groups {
		asked := m.component(g[inORC], 1, 1)
		if verbOf(asked) == 0 || asked != first {
			return 0, flaw{g[inORC], api.ErrFeedVerb}
		}
	}
	return verbOf(first), flaw{}
}

// verbOf gives the number of an order control; 0 for one that is not served.
func verbOf(control string) int {
	switch control {
	case "NW":
		return api.OrderNew
	case "XO":
		return api.OrderChange
	case "CA":
		return api.OrderCancel
	}
	return 0
}
