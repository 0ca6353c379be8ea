package pdu

// The types of items.
const (
	typeApp      = 0x10
	typeAsked    = 0x20 // a presentation context of a request
	typeAnswered = 0x21 // one of an accept
	typeClass    = 0x30
	typeSyntax   = 0x40
)

// The user information and its items.
const (
	typeUser = iota + 0x50
	typeMaxLength
	typeOwnClass
	typeOperations
	typeRole
	typeName
	typeOther // and all behind it: kept as they came
)

// place is what items stand in; several places are their sum.
type place uint8

const (
	inRQ place = 1 << iota
	inAC
	inAsked
	inAnswered
	inUser
)

// standing tells for each type in which places such items are read, and in which of them only one may stand; where they are not read they are let go.
var standing struct{ read, once [typeOther]place }

// init turns the list, which is written as a person would look it up, into what a reader asks: by the type.
func init() {
	const once, several = true, false
	for _, row := range []struct {
		kind uint8
		in   place
		once bool
	}{
		{typeApp, inRQ | inAC, once},
		{typeAsked, inRQ, several},
		{typeAnswered, inAC, several},
		{typeClass, inAsked, once},
		{typeSyntax, inAsked, several},
		{typeSyntax, inAnswered, once},
		{typeUser, inRQ | inAC, once},
		{typeMaxLength, inUser, once},
		{typeOwnClass, inUser, once},
		{typeOperations, inUser, once},
		{typeRole, inUser, several},
		{typeName, inUser, once},
	} {
		standing.read[row.kind] |= row.in
		if row.once {
			standing.once[row.kind] |= row.in
		}
	}
}

// itemForm is how items of a type are read.
type itemForm struct {
	fits func(body []byte) bool // whether such an item may be that long
	read func(r *reader, i item)
}

// itemForms gives the table: a row's place is its type's number.
func itemForms() [typeOther]itemForm {
	return [...]itemForm{
		typeApp:        {anyLength, (*reader).app},
		typeAsked:      {fourOrMore, (*reader).asked},
		typeAnswered:   {fourOrMore, (*reader).answered},
		typeClass:      {anyLength, (*reader).class},
		typeSyntax:     {anyLength, (*reader).syntax},
		typeUser:       {anyLength, (*reader).user},
		typeMaxLength:  {justFour, (*reader).maxLength},
		typeOwnClass:   {anyLength, (*reader).ownClass},
		typeOperations: {justFour, (*reader).operations},
		typeRole:       {roleLength, (*reader).role},
		typeName:       {anyLength, (*reader).name},
	}
}

func anyLength([]byte) bool { return true }

func fourOrMore(body []byte) bool { return len(body) >= 4 }

func justFour(body []byte) bool { return len(body) == 4 }

// roleLength: the two bytes of the UID's length and the two roles go with the UID.
func roleLength(body []byte) bool {
	return len(body) >= 4 && int(number(body[:2])) == len(body)-4
}
