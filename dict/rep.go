package dict

import (
	"strings"

	"modality/api"
)

// rep is a VR's row: what there is to know of it, which characters its values may have, and whether one whose length and characters may be is of its form. It has no char, or no form, where a value may be any.
type rep struct {
	api.VRInfo
	char func(r rune) bool
	form func(value string) bool
}

// reps gives the table: a row's place is its VR's number, so the first one is nobody's.
func reps() [api.VRItem]rep {
	return [...]rep{
		api.VRAE: {VRInfo: api.VRInfo{Name: "AE", Pad: ' ', Unit: 1, Most: 16, Text: true, Multi: true}, char: isTitleChar},
		api.VRAS: {VRInfo: api.VRInfo{Name: "AS", Pad: ' ', Unit: 1, Most: 4, Text: true, Multi: true}, char: isAgeChar, form: isAge},
		api.VRAT: {VRInfo: api.VRInfo{Name: "AT", Unit: 4, Most: 4, Multi: true}},
		api.VRCS: {VRInfo: api.VRInfo{Name: "CS", Pad: ' ', Unit: 1, Most: 16, Text: true, Multi: true}, char: isCodeChar},
		api.VRDA: {VRInfo: api.VRInfo{Name: "DA", Pad: ' ', Unit: 1, Most: 8, Text: true, Multi: true}, char: isDigit, form: isDate},
		api.VRDS: {VRInfo: api.VRInfo{Name: "DS", Pad: ' ', Unit: 1, Most: 16, Text: true, Multi: true}, char: isDecimalChar, form: isDecimal},
		api.VRDT: {VRInfo: api.VRInfo{Name: "DT", Pad: ' ', Unit: 1, Most: 26, Text: true, Multi: true}, char: isMomentChar, form: isMoment},
		api.VRFD: {VRInfo: api.VRInfo{Name: "FD", Unit: 8, Most: 8, Multi: true}},
		api.VRFL: {VRInfo: api.VRInfo{Name: "FL", Unit: 4, Most: 4, Multi: true}},
		api.VRIS: {VRInfo: api.VRInfo{Name: "IS", Pad: ' ', Unit: 1, Most: 12, Text: true, Multi: true}, char: isIntegerChar, form: isInteger},
		api.VRLO: {VRInfo: api.VRInfo{Name: "LO", Pad: ' ', Unit: 1, Most: 64, Text: true, Chars: true, Multi: true}, char: isLineChar},
		api.VRLT: {VRInfo: api.VRInfo{Name: "LT", Pad: ' ', Unit: 1, Most: 10240, Text: true, Chars: true}, char: isProseChar},
		api.VROB: {VRInfo: api.VRInfo{Name: "OB", Unit: 1, Long: true}},
		api.VROW: {VRInfo: api.VRInfo{Name: "OW", Unit: 2, Long: true}},
		api.VRPN: {VRInfo: api.VRInfo{Name: "PN", Pad: ' ', Unit: 1, Most: 64, Text: true, Chars: true, Multi: true}, char: isLineChar, form: isName},
		api.VRSH: {VRInfo: api.VRInfo{Name: "SH", Pad: ' ', Unit: 1, Most: 16, Text: true, Chars: true, Multi: true}, char: isLineChar},
		api.VRSL: {VRInfo: api.VRInfo{Name: "SL", Unit: 4, Most: 4, Multi: true}},
		api.VRSQ: {VRInfo: api.VRInfo{Name: "SQ", Unit: 1, Long: true}},
		api.VRSS: {VRInfo: api.VRInfo{Name: "SS", Unit: 2, Most: 2, Multi: true}},
		api.VRST: {VRInfo: api.VRInfo{Name: "ST", Pad: ' ', Unit: 1, Most: 1024, Text: true, Chars: true}, char: isProseChar},
		api.VRTM: {VRInfo: api.VRInfo{Name: "TM", Pad: ' ', Unit: 1, Most: 14, Text: true, Multi: true}, char: isPointed, form: isTime},
		api.VRUC: {VRInfo: api.VRInfo{Name: "UC", Pad: ' ', Unit: 1, Text: true, Chars: true, Multi: true, Long: true}, char: isLineChar},
		api.VRUI: {VRInfo: api.VRInfo{Name: "UI", Unit: 1, Most: 64, Text: true, Multi: true}, char: isPointed, form: isUID},
		api.VRUL: {VRInfo: api.VRInfo{Name: "UL", Unit: 4, Most: 4, Multi: true}},
		api.VRUN: {VRInfo: api.VRInfo{Name: "UN", Unit: 1, Long: true}},
		api.VRUR: {VRInfo: api.VRInfo{Name: "UR", Pad: ' ', Unit: 1, Text: true, Long: true}, char: isLinkChar},
		api.VRUS: {VRInfo: api.VRInfo{Name: "US", Unit: 2, Most: 2, Multi: true}},
		api.VRUT: {VRInfo: api.VRInfo{Name: "UT", Pad: ' ', Unit: 1, Text: true, Chars: true, Long: true}, char: isProseChar},
	}
}

func repOf(v api.VR) (rep, bool) {
	if v <= api.VRNone || v >= api.VRItem {
		return rep{}, false
	}
	return reps()[v], true
}

// valuesOf tells the row of a VR whose elements have values: a sequence has items.
func valuesOf(v api.VR) (rep, bool) {
	if v == api.VRSQ {
		return rep{}, false
	}
	return repOf(v)
}

// VRWord writes a VR's two letters (P3.5).
func VRWord(v api.VR) string {
	r, _ := repOf(v)
	return r.Name
}

// VROf reads a VR's two letters (P3.5).
func VROf(word string) (api.VR, error) {
	for v, r := range reps() {
		if v > 0 && r.Name == word {
			return api.VR(v), nil
		}
	}
	return 0, refusal(0, api.ErrDictVR)
}

// About tells what there is to know of a VR (P3.5).
func About(v api.VR) (api.VRInfo, bool) {
	r, ok := repOf(v)
	return r.VRInfo, ok
}

// Text tells whether a VR is text (P3.5).
func Text(v api.VR) bool {
	r, _ := repOf(v)
	return r.Text
}

// Unified tells whether a VR is text in the set's own characters (P3.5).
func Unified(v api.VR) bool {
	r, _ := repOf(v)
	return r.Chars
}

// Trim takes the padding away (P3.6).
func Trim(v api.VR, field string) string {
	if !Text(v) {
		return field
	}
	return trimmed(field)
}

func trimmed(field string) string { return strings.TrimRight(field, " \x00") }

// Pad pads a value to an even number of bytes (P3.6).
func Pad(v api.VR, value string) string {
	if len(value)%2 == 0 {
		return value
	}
	r, _ := repOf(v)
	return value + string(rune(r.Pad))
}
