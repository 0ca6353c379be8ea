package upper

import "modality/api"

// copied is the PDU in memory of its own.
func copied(p api.Pdu) api.Pdu {
	a := &p.Assoc
	a.Contexts = fresh(a.Contexts)
	for i := range a.Contexts {
		a.Contexts[i].Syntaxes = fresh(a.Contexts[i].Syntaxes)
	}
	a.User.Roles = fresh(a.User.Roles)
	a.User.Others = fresh(a.User.Others)
	for i := range a.User.Others {
		a.User.Others[i].Data = fresh(a.User.Others[i].Data)
	}
	p.Values = fresh(p.Values)
	for i := range p.Values {
		p.Values[i].Data = fresh(p.Values[i].Data)
	}
	return p
}

// fresh is the list in new memory, nil if it has no element.
func fresh[T any](list []T) []T { return append([]T(nil), list...) }
