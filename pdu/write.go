package pdu

import (
	"strings"

	"modality/api"
)

// reservedSize is how many bytes 0 stand behind the titles.
const reservedSize = 32

// The bits of the byte ahead of a PDV's data.
const (
	bitCommand = 1 << iota
	bitLast
)

// writer lays a PDU's bytes down, and gives up when there would be too many.
type writer struct {
	b    []byte
	most int
}

// write lays a PDU down that was looked over.
func write(p *api.Pdu, f form) []byte {
	w := &writer{most: headSize + int(f.most)}
	w.bytes(uint8(p.Kind), 0)
	w.sized(4, func() { f.write(w, p) })
	return w.b
}

// room gives up, unless so many bytes may follow. No item can be too long for its own length: the PDU would be too long by then.
func (w *writer) room(size int) {
	must(size <= w.most-len(w.b), 0, api.ErrPduLong)
}

func (w *writer) bytes(b ...byte) {
	w.room(len(b))
	w.b = append(w.b, b...)
}

func (w *writer) text(text string) {
	w.room(len(text))
	w.b = append(w.b, text...)
}

// number lays down the lowest bytes of a number, so many of them, the high one first.
func (w *writer) number(n uint32, size int) {
	for size > 0 {
		size--
		w.bytes(byte(n >> (8 * size)))
	}
}

// sized lays down how many bytes a part has, in so many bytes, and the part behind that.
func (w *writer) sized(size int, part func()) {
	at := len(w.b)
	w.number(0, size)
	part()
	n := len(w.b) - at - size
	for i := range size {
		w.b[at+i] = byte(n >> (8 * (size - 1 - i)))
	}
}

func (w *writer) item(kind uint8, body func()) {
	w.bytes(kind, 0)
	w.sized(2, body)
}

func (w *writer) textItem(kind uint8, text string) {
	w.item(kind, func() { w.text(text) })
}

// writeReasons: what the kind does not use is zero.
func writeReasons(w *writer, p *api.Pdu) {
	w.bytes(0, p.Result, p.Source, p.Reason)
}

func writeValues(w *writer, p *api.Pdu) {
	for _, v := range p.Values {
		w.sized(4, func() {
			w.bytes(v.Context, control(v))
			w.bytes(v.Data...)
		})
	}
}

func control(v api.Pdv) (bits byte) {
	if v.Command {
		bits |= bitCommand
	}
	if v.Last {
		bits |= bitLast
	}
	return bits
}

func writeAssociate(w *writer, p *api.Pdu) {
	a := &p.Assoc
	w.number(uint32(a.Version), 2)
	w.bytes(0, 0)
	w.title(a.Called)
	w.title(a.Calling)
	w.bytes(make([]byte, reservedSize)...)
	w.textItem(typeApp, a.App)
	for _, c := range a.Contexts {
		w.context(p.Kind, c)
	}
	w.item(typeUser, func() { w.user(&a.User) })
}

func (w *writer) title(text string) {
	w.text(text)
	w.text(strings.Repeat(" ", titleSize-len(text)))
}

func (w *writer) context(kind int, c api.PresContext) {
	if kind == api.PduAC {
		w.item(typeAnswered, func() {
			w.bytes(c.Id, 0, c.Result, 0)
			w.syntaxes(c)
		})
		return
	}
	w.item(typeAsked, func() {
		w.bytes(c.Id, 0, 0, 0)
		w.textItem(typeClass, c.Class)
		w.syntaxes(c)
	})
}

func (w *writer) syntaxes(c api.PresContext) {
	for _, syntax := range c.Syntaxes {
		w.textItem(typeSyntax, syntax)
	}
}

func (w *writer) user(u *api.UserInfo) {
	if u.HasMax {
		w.item(typeMaxLength, func() { w.number(u.MaxLength, 4) })
	}
	if u.Class != "" {
		w.textItem(typeOwnClass, u.Class)
	}
	if u.HasOps {
		w.item(typeOperations, func() {
			w.number(uint32(u.Invoked), 2)
			w.number(uint32(u.Performed), 2)
		})
	}
	for _, r := range u.Roles {
		w.item(typeRole, func() {
			w.sized(2, func() { w.text(r.Class) })
			w.bytes(r.Scu, r.Scp)
		})
	}
	if u.Name != "" {
		w.textItem(typeName, u.Name)
	}
	for _, o := range u.Others {
		w.item(o.Type, func() { w.bytes(o.Data...) })
	}
}
