package pdu

import "modality/api"

// The fields of a PDU, as they are told.
const (
	fieldAssoc = iota + 1
	fieldResult
	fieldSource
	fieldReason
	fieldValues
)

// The parts of what an A-ASSOCIATE-RQ or -AC tells, as they are told; a context is told by its place too.
const (
	partTitles = iota + 10
	partApp
	partContexts
	partUser
	partContext = 20
)

// lastResult is the greatest Result of a context.
const lastResult = 4

// checkUnused gives up at the first field that the kind does not use, if it is not zero.
func checkUnused(p *api.Pdu, uses fields) {
	must(uses&usesAssoc != 0 || noAssociate(&p.Assoc), fieldAssoc, api.ErrPduField)
	must(uses&usesResult != 0 || p.Result == 0, fieldResult, api.ErrPduField)
	must(uses&usesSource != 0 || p.Source == 0, fieldSource, api.ErrPduField)
	must(uses&usesReason != 0 || p.Reason == 0, fieldReason, api.ErrPduField)
	must(uses&usesValues != 0 || len(p.Values) == 0, fieldValues, api.ErrPduField)
}

func noAssociate(a *api.Associate) bool {
	return a.Version == 0 && a.Called == "" && a.Calling == "" && a.App == "" && len(a.Contexts) == 0 && noUser(&a.User)
}

func noUser(u *api.UserInfo) bool {
	return !u.HasMax && u.MaxLength == 0 && u.Class == "" && u.Name == "" && !u.HasOps && u.Invoked == 0 && u.Performed == 0 && len(u.Roles) == 0 && len(u.Others) == 0
}

// checkNothing: a kind whose fields may be anything.
func checkNothing(*api.Pdu) {}

func checkRequest(p *api.Pdu) { checkAssociate(&p.Assoc, askedMayBe, askedIsSaid) }

func checkAccept(p *api.Pdu) { checkAssociate(&p.Assoc, answeredMayBe, syntaxesAreSaid) }

// checkAssociate gives up at the first part that may not be; what a context may be, and how its texts, is the kind's own.
func checkAssociate(a *api.Associate, mayBe, isSaid func(c *api.PresContext) bool) {
	must(isTitle(a.Called) && isTitle(a.Calling), partTitles, api.ErrPduText)
	must(isUID(a.App), partApp, api.ErrPduText)
	must(len(a.Contexts) > 0 && len(a.Contexts) <= api.MaxContexts, partContexts, api.ErrPduContext)
	var ids idSet
	for i := range a.Contexts {
		c := &a.Contexts[i]
		must(ids.add(c.Id) && mayBe(c), partContext+i, api.ErrPduContext)
		must(isSaid(c), partContext+i, api.ErrPduText)
	}
	checkUserFields(&a.User)
	checkUserTexts(&a.User)
}

func askedMayBe(c *api.PresContext) bool {
	return c.Result == 0 && len(c.Syntaxes) > 0
}

func answeredMayBe(c *api.PresContext) bool {
	if c.Class != "" || c.Result > lastResult {
		return false
	}
	if c.Result == 0 {
		return len(c.Syntaxes) == 1
	}
	return len(c.Syntaxes) == 0
}

func askedIsSaid(c *api.PresContext) bool {
	return isUID(c.Class) && syntaxesAreSaid(c)
}

func syntaxesAreSaid(c *api.PresContext) bool {
	for _, syntax := range c.Syntaxes {
		if !isUID(syntax) {
			return false
		}
	}
	return true
}

func checkUserFields(u *api.UserInfo) {
	must(u.HasMax || u.MaxLength == 0, partUser, api.ErrPduField)
	must(u.HasOps || u.Invoked == 0 && u.Performed == 0, partUser, api.ErrPduField)
	classes := classSet{}
	for _, r := range u.Roles {
		must(r.Scu <= 1 && r.Scp <= 1 && classes.add(r.Class), partUser, api.ErrPduField)
	}
	for _, o := range u.Others {
		must(o.Type >= typeOther, partUser, api.ErrPduField)
	}
}

func checkUserTexts(u *api.UserInfo) {
	must(u.Class == "" || isUID(u.Class), partUser, api.ErrPduText)
	must(u.Name == "" || isName(u.Name), partUser, api.ErrPduText)
	for _, r := range u.Roles {
		must(isUID(r.Class), partUser, api.ErrPduText)
	}
}

func checkValues(p *api.Pdu) {
	must(len(p.Values) > 0, fieldValues, api.ErrPduItem)
	for _, v := range p.Values {
		must(odd(v.Context), fieldValues, api.ErrPduContext)
	}
}

// odd: the numbers of contexts are.
func odd(id uint8) bool { return id%2 == 1 }

// idSet is the numbers of the contexts that came.
type idSet [256]bool

// add tells whether a context may have this number, and notes that it has.
func (s *idSet) add(id uint8) bool {
	fresh := odd(id) && !s[id]
	s[id] = true
	return fresh
}

// classSet is the classes whose roles came.
type classSet map[string]struct{}

// add tells whether the class is new, and notes that it came.
func (s classSet) add(class string) bool {
	before := len(s)
	s[class] = struct{}{}
	return len(s) > before
}
