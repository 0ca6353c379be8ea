package dump

import "modality/api"

// between stands between the values of one element, in the text and in a text's Value.
const between = `\`

// form is how the single values of a VR stand in a text: each as one token.
type form struct {
	token   kind
	several bool                                        // whether more than one may stand there
	bits    int                                         // of a number
	write   func(value string, bits int) (string, bool) // false, if it can't be said by such a token
	read    func(token string, bits int) (string, bool) // false, if there may be no such value
}

// forms gives the table: a row's place is its VR's number. A sequence has items, and no row.
func forms() [api.VRItem]form {
	pieces := form{token: quotedToken, several: true, write: quote, read: readPiece}
	prose := form{token: quotedToken, write: quote, read: readProse}
	return [...]form{
		api.VRAE: pieces,
		api.VRAS: pieces,
		api.VRAT: {token: tagToken, several: true, bits: 32, write: writeTag, read: readTag},
		api.VRCS: pieces,
		api.VRDA: pieces,
		api.VRDS: pieces,
		api.VRDT: pieces,
		api.VRFD: {token: numberToken, several: true, bits: 64, write: writeFloat, read: readFloat},
		api.VRFL: {token: numberToken, several: true, bits: 32, write: writeFloat, read: readFloat},
		api.VRIS: pieces,
		api.VRLO: pieces,
		api.VRLT: prose,
		api.VROB: bare(),
		api.VROW: bare(),
		api.VRPN: pieces,
		api.VRSH: pieces,
		api.VRSL: {token: numberToken, several: true, bits: 32, write: writeSigned, read: readSigned},
		api.VRSS: {token: numberToken, several: true, bits: 16, write: writeSigned, read: readSigned},
		api.VRST: prose,
		api.VRTM: pieces,
		api.VRUC: pieces,
		api.VRUI: pieces,
		api.VRUL: {token: numberToken, several: true, bits: 32, write: writeUnsigned, read: readUnsigned},
		api.VRUN: bare(),
		api.VRUR: prose,
		api.VRUS: {token: numberToken, several: true, bits: 16, write: writeUnsigned, read: readUnsigned},
		api.VRUT: prose,
	}
}

// bare is the form of bytes that say nothing else; the Value of every VR may stand so.
func bare() form { return form{token: hexToken, write: writeHex, read: readHex} }
