package pdu

// What a text may be.
const (
	titleSize = 16
	uidSize   = 64
	nameSize  = 16
)

// isTitle tells whether a text may be the name of an application entity.
func isTitle(text string) bool {
	if !consists(text, titleSize, inTitle) {
		return false
	}
	return text[0] != ' ' && text[len(text)-1] != ' '
}

func isUID(text string) bool { return consists(text, uidSize, inUID) }

func isName(text string) bool { return consists(text, nameSize, printable) }

// consists tells whether a text has one byte or more, at most so many, and nothing in it but what may be.
func consists(text string, most int, may func(r rune) bool) bool {
	if text == "" || len(text) > most {
		return false
	}
	for _, r := range text {
		if !may(r) {
			return false
		}
	}
	return true
}

func printable(r rune) bool { return r >= 0x20 && r <= 0x7E }

// inTitle: a backslash would part a title in two, where it stands as a value.
func inTitle(r rune) bool { return printable(r) && r != '\\' }

func inUID(r rune) bool { return r >= '0' && r <= '9' || r == '.' }
