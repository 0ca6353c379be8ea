package pdu

import (
	"bytes"
	"strings"

	"modality/api"
)

// Where the parts of an A-ASSOCIATE-RQ or -AC begin.
const (
	versionAt = headSize
	calledAt  = 10
	callingAt = calledAt + titleSize
	itemsAt   = callingAt + titleSize + reservedSize
)

// itemHead is how many bytes stand ahead of what is in an item: its type, a byte 0, its length.
const itemHead = 4

// What stands ahead of a PDV's data: its length, and, counted in it, the context's number and a byte of bits.
const (
	sizeOfSize  = 4
	sizeOfMarks = 2
)

// number reads a number whose high byte stands first.
func number(b []byte) (n uint32) {
	for _, x := range b {
		n = n<<8 | uint32(x)
	}
	return n
}

// readReasons leaves zero what the kind does not use, whatever stands there.
func readReasons(p *api.Pdu, uses fields, b []byte) {
	if uses&usesResult != 0 {
		p.Result = b[7]
	}
	if uses&usesSource != 0 {
		p.Source = b[8]
	}
	if uses&usesReason != 0 {
		p.Reason = b[9]
	}
}

func readValues(p *api.Pdu, _ fields, b []byte) {
	for at := headSize; at < len(b); {
		v, size := readValue(b[at:], at)
		p.Values = append(p.Values, v)
		at += size
	}
	must(len(p.Values) > 0, headSize, api.ErrPduItem)
}

// readValue reads the first of the PDVs that are left, and tells how many bytes it has.
func readValue(left []byte, at int) (v api.Pdv, size int) {
	must(len(left) >= sizeOfSize, at, api.ErrPduLength)
	told := number(left[:sizeOfSize])
	left = left[sizeOfSize:]
	must(told >= sizeOfMarks && told <= uint32(len(left)), at, api.ErrPduLength)
	must(odd(left[0]), at, api.ErrPduContext)
	v.Context = left[0]
	v.Command = left[1]&bitCommand != 0
	v.Last = left[1]&bitLast != 0
	v.Data = fresh(left[sizeOfMarks:told])
	return v, sizeOfSize + int(told)
}

// fresh copies bytes into memory of their own; none are nil.
func fresh(b []byte) []byte { return append([]byte(nil), b...) }

// readAssociate reads from the left, so that what is told is the first place that is wrong.
func readAssociate(p *api.Pdu, _ fields, b []byte) {
	must(len(b) >= itemsAt, lengthAt, api.ErrPduLength)
	r := &reader{b: b, forms: itemForms(), roles: classSet{}}
	r.assoc.Version = uint16(number(b[versionAt : versionAt+2]))
	r.assoc.Called = r.title(calledAt)
	r.assoc.Calling = r.title(callingAt)
	in, context := inRQ, typeAsked
	if p.Kind == api.PduAC {
		in, context = inAC, typeAnswered
	}
	came := r.items(in, itemsAt, len(b))
	must(came[typeApp] && came[context] && came[typeUser], len(b), api.ErrPduItem)
	p.Assoc = r.assoc
}

// reader goes over the bytes of an A-ASSOCIATE-RQ or -AC.
type reader struct {
	b     []byte
	forms [typeOther]itemForm
	ids   idSet
	roles classSet
	assoc api.Associate
}

// item is one item: its place among all bytes, and what is in it.
type item struct {
	kind uint8
	at   int
	body []byte
}

// inside is the place of what is in the item.
func (i item) inside() int { return i.at + itemHead }

// end is the place behind the item.
func (i item) end() int { return i.inside() + len(i.body) }

// types is which types of items were read in one place.
type types [typeOther]bool

// items reads all items between two places.
func (r *reader) items(in place, from, end int) (came types) {
	for at := from; at < end; {
		i := r.item(at, end)
		r.take(in, i, &came)
		at = i.end()
	}
	return came
}

// item cuts out the item that begins at a place; it may go as far as end.
func (r *reader) item(at, end int) item {
	must(end-at >= itemHead, at, api.ErrPduLength)
	inside := at + itemHead
	size := int(number(r.b[inside-2 : inside]))
	must(size <= end-inside, at, api.ErrPduLength)
	return item{r.b[at], at, r.b[inside : inside+size]}
}

// take reads an item, or lets it go where it stands.
func (r *reader) take(in place, i item, came *types) {
	if i.kind >= typeOther {
		r.other(in, i)
		return
	}
	if standing.read[i.kind]&in == 0 {
		return
	}
	f := r.forms[i.kind]
	must(f.fits(i.body), i.at, api.ErrPduLength)
	must(!came[i.kind] || standing.once[i.kind]&in == 0, i.at, api.ErrPduItem)
	came[i.kind] = true
	f.read(r, i)
}

func (r *reader) title(at int) string {
	text := strings.Trim(string(r.b[at:at+titleSize]), " ")
	must(isTitle(text), at, api.ErrPduText)
	return text
}

func (r *reader) uid(at int, b []byte) string {
	text := string(bytes.TrimRight(b, "\x00"))
	must(isUID(text), at, api.ErrPduText)
	return text
}

func (r *reader) app(i item) { r.assoc.App = r.uid(i.inside(), i.body) }

// asked reads a context of a request, whose Result says nothing.
func (r *reader) asked(i item) {
	came := r.context(i, inAsked, 0)
	must(came[typeClass] && came[typeSyntax], i.at, api.ErrPduItem)
}

func (r *reader) answered(i item) {
	result := i.body[2]
	must(result <= lastResult, i.at, api.ErrPduContext)
	came := r.context(i, inAnswered, result)
	must(came[typeSyntax] || result != 0, i.at, api.ErrPduItem)
}

// context begins a context, and reads the items in it.
func (r *reader) context(i item, in place, result uint8) types {
	id := i.body[0]
	must(r.ids.add(id), i.at, api.ErrPduContext)
	r.assoc.Contexts = append(r.assoc.Contexts, api.PresContext{Id: id, Result: result})
	return r.items(in, i.inside()+4, i.end())
}

// last is the context that is being read.
func (r *reader) last() *api.PresContext {
	return &r.assoc.Contexts[len(r.assoc.Contexts)-1]
}

func (r *reader) class(i item) { r.last().Class = r.uid(i.inside(), i.body) }

// syntax: behind a refusal's Result a syntax says nothing, but it must be one.
func (r *reader) syntax(i item) {
	syntax, c := r.uid(i.inside(), i.body), r.last()
	if c.Result == 0 {
		c.Syntaxes = append(c.Syntaxes, syntax)
	}
}

func (r *reader) user(i item) { r.items(inUser, i.inside(), i.end()) }

func (r *reader) maxLength(i item) {
	r.assoc.User.HasMax = true
	r.assoc.User.MaxLength = number(i.body)
}

func (r *reader) ownClass(i item) { r.assoc.User.Class = r.uid(i.inside(), i.body) }

func (r *reader) operations(i item) {
	r.assoc.User.HasOps = true
	r.assoc.User.Invoked = uint16(number(i.body[:2]))
	r.assoc.User.Performed = uint16(number(i.body[2:]))
}

func (r *reader) role(i item) {
	end := len(i.body) - 2
	role := api.Role{Class: r.uid(i.inside()+2, i.body[2:end]), Scu: i.body[end], Scp: i.body[end+1]}
	must(role.Scu <= 1 && role.Scp <= 1 && r.roles.add(role.Class), i.at, api.ErrPduItem)
	r.assoc.User.Roles = append(r.assoc.User.Roles, role)
}

// name: unlike a UID a name has no padding.
func (r *reader) name(i item) {
	text := string(i.body)
	must(isName(text), i.inside(), api.ErrPduText)
	r.assoc.User.Name = text
}

// other keeps a user item that this layer does not read.
func (r *reader) other(in place, i item) {
	if in == inUser {
		r.assoc.User.Others = append(r.assoc.User.Others, api.UserItem{Type: i.kind, Data: fresh(i.body)})
	}
}
