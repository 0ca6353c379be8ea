package charset

import (
	"strings"

	"modality/api"
)

// kindRow is a kind of text: the control characters that may stand in it, and what ends a piece.
type kindRow struct {
	controls string
	enders   string
}

var kinds = [...]kindRow{
	api.CharText: {controls: "\t\n\f\r", enders: "\t\n\f\r"},
	api.CharWord: {enders: `\`},
	api.CharName: {enders: `\^=`},
}

// isPlain tells whether a rune is its own byte in every set.
func (k kindRow) isPlain(r rune) bool {
	return isASCII(r) || strings.ContainsRune(k.controls, r)
}

// ends tells whether the first repertoire holds again behind a rune.
func (k kindRow) ends(r rune) bool { return strings.ContainsRune(k.enders, r) }

func isASCII(r rune) bool { return r >= 0x20 && r <= 0x7E }

// kindOf tells the kind of text that the elements of a VR are, if they are texts.
func kindOf(v api.VR) (kind int, ok bool) {
	switch v {
	case api.VRLO, api.VRSH, api.VRUC:
		return api.CharWord, true
	case api.VRPN:
		return api.CharName, true
	case api.VRST, api.VRLT, api.VRUT:
		return api.CharText, true
	}
	return 0, false
}
