package dimse

import "modality/api"

// use is what a command makes of a field.
type use byte

const (
	unused use = '-'
	may    use = 'O'
	must   use = 'M'
)

// mark tells by which of two elements a command says its class and its instance.
type mark int

const (
	anyMark   mark = iota // of an element: it is every command's
	affected              // a in the document
	requested             // r
)

// command is one of the commands: its uses are letters, by the fields' places.
type command struct {
	field uint16
	mark  mark
	uses  string
}

// answerUses is what all answers use.
const answerUses = "MOO-M-MMOOOO"

// commands has all that are no answers. The letters: Field, Class, Instance, Id, To, Priority, HasData, Status, Offending, Comment, ErrorId, Attrs.
var commands = [...]command{
	{api.CStore, affected, "MMMM-MM-----"},
	{api.CGet, affected, "MM-M-MM-----"},
	{api.CFind, affected, "MM-M-MM-----"},
	{api.CMove, affected, "MM-M-MM-----"},
	{api.CEcho, affected, "MM-M--M-----"},
	{api.NReport, affected, "MMMM--M-----"},
	{api.NGet, requested, "MMMM--M----O"},
	{api.NSet, requested, "MMMM--M-----"},
	{api.NAction, requested, "MMMM--M-----"},
	{api.NCreate, affected, "MMOM--M-----"},
	{api.NDelete, requested, "MMMM--M-----"},
	{api.CCancel, affected, "M---M-M-----"},
}

// commandOf finds a command by its Field. Each has an answer, but the one that cancels another.
func commandOf(field uint16) (command, bool) {
	for _, k := range commands {
		switch {
		case field == k.field:
			return k, true
		case field == k.field|api.IsAnswer && k.field != api.CCancel:
			return command{field, affected, answerUses}, true
		}
	}
	return command{}, false
}

func isAnswer(field uint16) bool { return field&api.IsAnswer != 0 }

// has tells whether an element is one by which the command would say its field.
func (k command) has(e element) bool { return e.mark == anyMark || e.mark == k.mark }

// use tells what the command makes of an element.
func (k command) use(e element) use {
	if !k.has(e) {
		return unused
	}
	return use(k.uses[e.place])
}

// elementAt finds the element by which the command would say a field.
func (k command) elementAt(place int) element {
	for _, e := range elements {
		if e.place == place && k.has(e) {
			return e
		}
	}
	return element{}
}
