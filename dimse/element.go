package dimse

import (
	"strings"

	"modality/api"
	"modality/dict"
)

// The places of a command's fields.
const (
	placeField = iota
	placeClass
	placeInstance
	placeId
	placeTo
	placePriority
	placeHasData
	placeStatus
	placeOffending
	placeComment
	placeErrorId
	placeAttrs
)

// The elements that are looked for by their number.
const (
	groupLength  = 0x0000
	commandField = 0x0100
)

// element is one that a command set may have, beside its group's length.
type element struct {
	number uint16
	vr     api.VR
	place  int
	mark   mark
	read   func(c *api.Cmd) field
	put    func(c *api.Cmd, f field)
}

// elements is the table, rising by number.
var elements = elementTable()

func elementTable() [14]element {
	return [...]element{
		{0x0002, api.VRUI, placeClass, affected, readClass, putClass},
		{0x0003, api.VRUI, placeClass, requested, readClass, putClass},
		{commandField, api.VRUS, placeField, anyMark, readField, putField},
		{0x0110, api.VRUS, placeId, anyMark, readId, putId},
		{0x0120, api.VRUS, placeTo, anyMark, readTo, putTo},
		{0x0700, api.VRUS, placePriority, anyMark, readPriority, putPriority},
		{0x0800, api.VRUS, placeHasData, anyMark, readHasData, putHasData},
		{0x0900, api.VRUS, placeStatus, anyMark, readStatus, putStatus},
		{0x0901, api.VRAT, placeOffending, anyMark, readOffending, putOffending},
		{0x0902, api.VRLO, placeComment, anyMark, readComment, putComment},
		{0x0903, api.VRUS, placeErrorId, anyMark, readErrorId, putErrorId},
		{0x1000, api.VRUI, placeInstance, affected, readInstance, putInstance},
		{0x1001, api.VRUI, placeInstance, requested, readInstance, putInstance},
		{0x1005, api.VRAT, placeAttrs, anyMark, readAttrs, putAttrs},
	}
}

// isEmpty tells whether an element that must be there would say nothing: a number always says one.
func (e element) isEmpty(f field) bool { return e.vr == api.VRUI && f.text == "" }

// takes tells whether a text that is not empty may be the element's (P10.1).
func (e element) takes(text string) bool {
	switch e.vr {
	case api.VRUI:
		return dict.Check(api.VRUI, text) == nil
	case api.VRLO:
		return isComment(text)
	}
	return true
}

// longestComment is how many bytes a comment has at most.
const longestComment = 64

func isComment(text string) bool {
	if len(text) > longestComment || strings.HasSuffix(text, " ") {
		return false
	}
	for _, c := range []byte(text) {
		if c < ' ' || c > '~' || c == '\\' {
			return false
		}
	}
	return true
}
