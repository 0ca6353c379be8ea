package dataset_test

import (
	"encoding/binary"
	"math"
	"strings"
	"testing"

	"modality/api"
)

// bytesCase is what must come of bytes: nodes, or a refusal.
type bytesCase struct {
	what string
	in   string
	want []api.Node
	code api.Errno
	at   int
}

// holdCases holds Decode against what is said, and the model against it too, so that the model is not wrong where Decode is.
func holdCases(t *testing.T, s api.Syntax, cases []bytesCase) {
	t.Helper()
	for _, c := range cases {
		t.Run(c.what, func(t *testing.T) {
			b := raw(t, c.in)
			if c.code == api.OK {
				wantNodes(t, b, s, c.want)
			} else {
				wantUnread(t, b, s, c.code, c.at)
			}
			if nodes, code, at := modelDecode(b, s); code != c.code || at != c.at || len(nodes) != len(c.want) {
				t.Errorf("the model says: %s, %d at %d", shown(nodes), code, at)
			}
		})
	}
}

var (
	steps = list(sequence(stepsTag, 1), item(1), ct)
	bare  = list(sequence(stepsTag, 1), item(0))
)

const (
	ctI   = "08 00 60 00 02 00 00 00 43 54 "
	ctE   = "08 00 60 00 43 53 02 00 43 54 "
	openI = "40 00 00 01 FF FF FF FF "
	openE = "40 00 00 01 53 51 00 00 FF FF FF FF "
	openU = "40 00 00 01 55 4E 00 00 FF FF FF FF "
	itemO = "FE FF 00 E0 FF FF FF FF "
	item0 = "FE FF 00 E0 00 00 00 00 "
	itemE = "FE FF 0D E0 00 00 00 00 "
	seqE  = "FE FF DD E0 00 00 00 00 "
)

func TestDecodeImplicit(t *testing.T) {
	holdCases(t, api.Implicit, []bytesCase{
		{"no bytes", "", nil, 0, 0},
		{"one element", ctI, list(ct), 0, 0},
		{"padding", "08 00 60 00 08 00 00 00 43 54 20 00 00 20 20 00", list(ct), 0, 0},
		{"padding alone", "08 00 60 00 02 00 00 00 20 20", list(element(codeTag, api.VRCS, "")), 0, 0},
		{"a space ahead", "08 00 60 00 02 00 00 00 20 43", list(element(codeTag, api.VRCS, " C")), 0, 0},
		{"a UID's padding", "08 00 18 00 04 00 00 00 31 2E 32 00", list(element(api.TagInstance, api.VRUI, "1.2")), 0, 0},
		{"a number's bytes", "28 00 10 00 02 00 00 00 00 00", list(element(0x00280010, api.VRUS, "\x00\x00")), 0, 0},
		{"an unknown attribute's bytes", "19 00 01 10 02 00 00 00 20 00", list(element(privateTag, api.VRUN, " \x00")), 0, 0},
		{"a creator's padding", "19 00 10 00 02 00 00 00 58 20", list(element(creatorTag, api.VRLO, "X")), 0, 0},
		{"values that are not valid", "08 00 20 00 02 00 00 00 FF FF", list(element(0x00080020, api.VRDA, "\xFF\xFF")), 0, 0},
		{"an overlay's group", "1E 60 10 00 02 00 00 00 01 00", list(element(0x601E0010, api.VRUS, "\x01\x00")), 0, 0},

		{"1: seven bytes", "08 00 60 00 04 00 00", nil, api.ErrSetShort, 0},
		{"1: one byte behind", ctI + "08", nil, api.ErrSetShort, 10},
		{"1: seven bytes behind", ctI + "08 00 61 00 00 00 00", nil, api.ErrSetShort, 10},
		{"1: seven bytes of a room", "40 00 00 01 10 00 00 00 FE FF 00 E0 06 00 00 00 08 00 60 00 00 00 00 00 00 00", nil, api.ErrSetShort, 16},
		{"1: ahead of the tag", "FE FF 00 E0 00 00 00", nil, api.ErrSetShort, 0},
		{"1: an item's end is missing", openI + itemO + ctI, nil, api.ErrSetShort, 26},
		{"1: an item's end is cut off", openI + itemO + ctI + "FE FF 0D E0 00 00 00", nil, api.ErrSetShort, 26},
		{"1: an item's end is missing, its sequence is at its end", "40 00 00 01 08 00 00 00 " + itemO + itemE, nil, api.ErrSetShort, 16},

		{"2: an item on the top", item0, nil, api.ErrSetTag, 0},
		{"2: an item's end on the top", itemE, nil, api.ErrSetTag, 0},
		{"2: an item's end with a length on the top", "FE FF 0D E0 02 00 00 00 00 00", nil, api.ErrSetTag, 0},
		{"2: a sequence's end on the top", seqE, nil, api.ErrSetTag, 0},
		{"2: an item's end in a defined room", openI + "FE FF 00 E0 08 00 00 00 " + itemE + seqE, nil, api.ErrSetTag, 16},
		{"2: a sequence's end in a room", openI + itemO + seqE, nil, api.ErrSetTag, 16},
		{"2: an item in a room", openI + itemO + item0, nil, api.ErrSetTag, 16},
		{"2: an item's end with a length", openI + itemO + "FE FF 0D E0 02 00 00 00 00 00 " + seqE, nil, api.ErrSetLength, 16},
		{"2: an item's end with an undefined length", openI + itemO + "FE FF 0D E0 FF FF FF FF " + seqE, nil, api.ErrSetLength, 16},
		{"2: another tag of the items' group", "FE FF 01 00 00 00 00 00", nil, api.ErrSetTag, 0},
		{"2: the group length of the items' group", "FE FF 00 00 04 00 00 00 00 00 00 00", nil, api.ErrSetTag, 0},
		{"2: group 0000", "00 00 00 01 02 00 00 00 30 00", nil, api.ErrSetTag, 0},
		{"2: tag 0", "00 00 00 00 04 00 00 00 00 00 00 00", nil, api.ErrSetTag, 0},
		{"2: group 0002", "02 00 10 00 00 00 00 00", nil, api.ErrSetTag, 0},
		{"2: group 0002's length", "02 00 00 00 04 00 00 00 00 00 00 00", nil, api.ErrSetTag, 0},
		{"2: group FFFF", "FF FF 01 00 00 00 00 00", nil, api.ErrSetTag, 0},
		{"2: group 0001", "01 00 01 00 00 00 00 00", list(element(0x00010001, api.VRUN, "")), 0, 0},
		{"2: group 0003", "03 00 01 00 00 00 00 00", list(element(0x00030001, api.VRUN, "")), 0, 0},
		{"2: group FFFD", "FD FF FF FF 00 00 00 00", list(element(0xFFFDFFFF, api.VRUN, "")), 0, 0},
		{"2: the same tag", ctI + ctI, nil, api.ErrSetTag, 10},
		{"2: a lower tag", ctI + "08 00 50 00 00 00 00 00", nil, api.ErrSetTag, 10},
		{"2: a higher tag", ctI + "08 00 61 00 00 00 00 00", list(ct, element(0x00080061, api.VRCS, "")), 0, 0},
		{"2: a higher tag of low bytes", "08 00 FF 00 00 00 00 00 09 00 01 00 00 00 00 00", list(element(0x000800FF, api.VRUN, ""), element(0x00090001, api.VRUN, "")), 0, 0},
		{"2: a lower tag ahead of its odd length", ctI + "08 00 50 00 03 00 00 00", nil, api.ErrSetTag, 10},
		{"2: the same tag behind a sequence", openI + seqE + openI + seqE, nil, api.ErrSetTag, 16},
		{"2: a lower tag behind a sequence", openI + itemO + "40 00 01 10 00 00 00 00 " + itemE + seqE + ctI, nil, api.ErrSetTag, 40},
		{"2: the same tags in two items", openI + itemO + ctI + itemE + itemO + ctI + itemE + seqE, list(sequence(stepsTag, 2), item(1), ct, item(1), ct), 0, 0},
		{"2: a higher tag behind a higher one inside", openI + itemO + "50 00 01 10 00 00 00 00 " + itemE + seqE + "40 00 01 10 00 00 00 00", list(sequence(stepsTag, 1), item(1), element(0x00501001, api.VRUN, ""), element(idTag, api.VRSH, "")), 0, 0},

		{"3: an unknown sequence", "19 00 01 10 FF FF FF FF " + item0 + seqE, list(sequence(privateTag, 1), item(0)), 0, 0},
		{"3: an unknown sequence of a defined length", "19 00 01 10 08 00 00 00 " + item0, list(element(privateTag, api.VRUN, "\xFE\xFF\x00\xE0\x00\x00\x00\x00")), 0, 0},
		{"3: a creator of an undefined length", "19 00 10 00 FF FF FF FF " + seqE, list(sequence(creatorTag, 0)), 0, 0},

		{"4: an odd length", "08 00 60 00 03 00 00 00 43 54 55", nil, api.ErrSetLength, 0},
		{"4: an odd length that is not there", "08 00 60 00 FD FF FF FF", nil, api.ErrSetLength, 0},
		{"4: an odd length of a sequence", "40 00 00 01 07 00 00 00 00 00 00 00 00 00 00 ", nil, api.ErrSetLength, 0},
		{"4: an undefined length", "08 00 60 00 FF FF FF FF", nil, api.ErrSetLength, 0},
		{"4: an undefined length with an end", "08 00 60 00 FF FF FF FF " + seqE, nil, api.ErrSetLength, 0},
		{"4: an undefined length of pixels", "E0 7F 10 00 FF FF FF FF " + seqE, nil, api.ErrSetLength, 0},
		{"4: an undefined length of a group length", "08 00 00 00 FF FF FF FF " + seqE, nil, api.ErrSetLength, 0},
		{"4: an odd length of a group length", "08 00 00 00 03 00 00 00 00 00 00", nil, api.ErrSetLength, 0},

		{"5: a length above the most", "08 00 60 00 00 00 01 00", nil, api.ErrSetLong, 0},
		{"5: a length far above the most", "08 00 60 00 FE FF FF FF", nil, api.ErrSetLong, 0},
		{"5: the most, which is not there", "08 00 60 00 FE FF 00 00", nil, api.ErrSetShort, 0},
		{"5: a group length above the most", "08 00 00 00 00 00 01 00", nil, api.ErrSetLong, 0},
		{"5: a sequence above the most", "40 00 00 01 00 00 01 00", nil, api.ErrSetShort, 0},
		{"5: a sequence far above the most", "40 00 00 01 FE FF FF FF", nil, api.ErrSetShort, 0},
		{"5: two bytes too few", "08 00 60 00 04 00 00 00 43 54", nil, api.ErrSetShort, 0},
		{"5: one byte too few", "08 00 60 00 04 00 00 00 43 54 55", nil, api.ErrSetShort, 0},
		{"5: a group length's value too short", "08 00 00 00 04 00 00 00 01 02", nil, api.ErrSetShort, 0},
		{"5: a sequence two bytes too long", "40 00 00 01 0A 00 00 00 " + item0, nil, api.ErrSetShort, 0},
		{"5: a value beyond its room", openI + "FE FF 00 E0 08 00 00 00 08 00 60 00 02 00 00 00 43 54 " + seqE, nil, api.ErrSetShort, 16},
		{"5: a sequence beyond its room", openI + "FE FF 00 E0 08 00 00 00 40 00 00 01 08 00 00 00 " + item0 + seqE, nil, api.ErrSetShort, 16},
		{"5: a value beyond the sequence of its open room", "40 00 00 01 10 00 00 00 " + itemO + "08 00 60 00 02 00 00 00 43 54 " + itemE, nil, api.ErrSetShort, 16},

		{"6: a group length", "08 00 00 00 04 00 00 00 0A 00 00 00 " + ctI, list(ct), 0, 0},
		{"6: a group length that is wrong", "08 00 00 00 04 00 00 00 FF 00 00 00 " + ctI, list(ct), 0, 0},
		{"6: a group length without bytes", "08 00 00 00 00 00 00 00 " + ctI, list(ct), 0, 0},
		{"6: a group length of six bytes", "08 00 00 00 06 00 00 00 01 02 03 04 05 06 " + ctI, list(ct), 0, 0},
		{"6: a group length alone", "08 00 00 00 04 00 00 00 0A 00 00 00", nil, 0, 0},
		{"6: a private group's length", "19 00 00 00 04 00 00 00 0A 00 00 00 ", nil, 0, 0},
		{"6: a group length twice", "08 00 00 00 00 00 00 00 08 00 00 00 00 00 00 00", nil, api.ErrSetTag, 8},
		{"6: a group length behind its group", ctI + "08 00 00 00 00 00 00 00", nil, api.ErrSetTag, 10},
		{"6: a lower tag behind a group length", "10 00 00 00 00 00 00 00 " + ctI, nil, api.ErrSetTag, 8},
		{"6: a group length in an item", openI + itemO + "08 00 00 00 04 00 00 00 0A 00 00 00 " + ctI + itemE + seqE, steps, 0, 0},

		{"items: defined lengths", "40 00 00 01 12 00 00 00 FE FF 00 E0 0A 00 00 00 " + ctI, steps, 0, 0},
		{"items: undefined lengths", openI + itemO + ctI + itemE + seqE, steps, 0, 0},
		{"items: an open item in a defined sequence", "40 00 00 01 1A 00 00 00 " + itemO + ctI + itemE, steps, 0, 0},
		{"items: a defined item in an open sequence", openI + "FE FF 00 E0 0A 00 00 00 " + ctI + seqE, steps, 0, 0},
		{"items: none, defined", "40 00 00 01 00 00 00 00", list(sequence(stepsTag, 0)), 0, 0},
		{"items: none, undefined", openI + seqE, list(sequence(stepsTag, 0)), 0, 0},
		{"items: an empty one, defined", "40 00 00 01 08 00 00 00 " + item0, bare, 0, 0},
		{"items: an empty one, undefined", openI + itemO + itemE + seqE, bare, 0, 0},
		{"items: more behind", openI + item0 + seqE + "40 00 01 10 02 00 00 00 50 20", append(list(bare...), element(idTag, api.VRSH, "P")), 0, 0},
		{"items: more behind a defined one", "40 00 00 01 08 00 00 00 " + item0 + "40 00 01 10 02 00 00 00 50 20", append(list(bare...), element(idTag, api.VRSH, "P")), 0, 0},

		{"items 1: six bytes of a defined sequence", "40 00 00 01 06 00 00 00 FE FF 00 E0 00 00", nil, api.ErrSetShort, 8},
		{"items 1: six bytes behind an item", "40 00 00 01 0E 00 00 00 " + item0 + "FE FF 00 E0 00 00", nil, api.ErrSetShort, 16},
		{"items 1: the last end is missing", openI + itemO + ctI + itemE, nil, api.ErrSetShort, 34},
		{"items 1: nothing in an open sequence", openI, nil, api.ErrSetShort, 8},
		{"items 1: the last end is cut off", openI + "FE FF DD E0 00 00 00", nil, api.ErrSetShort, 8},
		{"items 1: an open sequence's end beyond its room", "40 00 00 01 10 00 00 00 FE FF 00 E0 08 00 00 00 " + openI + seqE, nil, api.ErrSetShort, 24},
		{"items 2: a sequence's end in a defined one", "40 00 00 01 08 00 00 00 " + seqE, nil, api.ErrSetTag, 8},
		{"items 2: a sequence's end with a length", openI + "FE FF DD E0 02 00 00 00 00 00", nil, api.ErrSetLength, 8},
		{"items 2: a sequence's end with an undefined length", openI + "FE FF DD E0 FF FF FF FF", nil, api.ErrSetLength, 8},
		{"items 2: an element for an item", openI + ctI + seqE, nil, api.ErrSetTag, 8},
		{"items 2: an item's end for an item", openI + itemE + seqE, nil, api.ErrSetTag, 8},
		{"items 2: an element for an item ahead of its odd length", openI + "08 00 60 00 01 00 00 00 " + seqE, nil, api.ErrSetTag, 8},
		{"items 3: an odd length", "40 00 00 01 08 00 00 00 FE FF 00 E0 01 00 00 00", nil, api.ErrSetLength, 8},
		{"items 3: beyond the sequence", "40 00 00 01 08 00 00 00 FE FF 00 E0 02 00 00 00", nil, api.ErrSetShort, 8},
		{"items 3: beyond the sequence, though there are bytes", "40 00 00 01 08 00 00 00 FE FF 00 E0 0A 00 00 00 " + ctI, nil, api.ErrSetShort, 8},
		{"items 3: far beyond", openI + "FE FF 00 E0 FE FF FF FF " + seqE, nil, api.ErrSetShort, 8},
	})
}

func TestDecodeExplicit(t *testing.T) {
	holdCases(t, api.Explicit, []bytesCase{
		{"no bytes", "", nil, 0, 0},
		{"one element", ctE, list(ct), 0, 0},
		{"a long head", "40 00 60 A1 55 54 00 00 02 00 00 00 61 20", list(element(0x0040A160, api.VRUT, "a")), 0, 0},
		{"a long head's two bytes", "40 00 60 A1 55 54 FF 01 02 00 00 00 61 20", list(element(0x0040A160, api.VRUT, "a")), 0, 0},
		{"letters of an unknown attribute", "19 00 01 10 53 48 02 00 41 20", list(element(privateTag, api.VRSH, "A")), 0, 0},
		{"letters of a creator", "19 00 10 00 55 53 02 00 41 20", list(element(creatorTag, api.VRUS, "A ")), 0, 0},

		{"1: seven bytes", "08 00 60 00 43 53 00", nil, api.ErrSetShort, 0},
		{"2: the same tag", ctE + ctE, nil, api.ErrSetTag, 10},
		{"2: a lower tag ahead of its letters", ctE + "08 00 50 00 3F 3F 00 00", nil, api.ErrSetTag, 10},
		{"2: an item", item0, nil, api.ErrSetTag, 0},
		{"2: group FFFF", "FF FF 01 00 55 4E 00 00 00 00 00 00", nil, api.ErrSetTag, 0},
		{"2: an item's end with a length", openE + itemO + "FE FF 0D E0 00 00 01 00 " + seqE, nil, api.ErrSetLength, 20},

		{"3: no letters", "08 00 60 00 3F 3F 02 00 43 54", nil, api.ErrSetVR, 0},
		{"3: small letters", "08 00 60 00 63 73 02 00 43 54", nil, api.ErrSetVR, 0},
		{"3: letters turned round", "08 00 60 00 53 43 02 00 43 54", nil, api.ErrSetVR, 0},
		{"3: the letters of an Implicit length", ctI, nil, api.ErrSetVR, 0},
		{"3: no letters, of an unknown attribute", "19 00 01 10 00 00 02 00 43 54", nil, api.ErrSetVR, 0},
		{"3: no letters, ahead of the odd length", "19 00 01 10 00 00 03 00 43 54", nil, api.ErrSetVR, 0},
		{"3: another attribute's letters", "08 00 60 00 4C 4F 02 00 43 54", nil, api.ErrSetVR, 0},
		{"3: another attribute's letters, ahead of the odd length", "08 00 60 00 4C 4F 03 00 43 54 55", nil, api.ErrSetVR, 0},
		{"3: long letters for short ones", "08 00 60 00 4F 42 00 00 02 00 00 00 43 54", nil, api.ErrSetVR, 0},
		{"3: a sequence's letters for others", "08 00 60 00 53 51 00 00 00 00 00 00", nil, api.ErrSetVR, 0},
		{"3: others for a sequence's", "40 00 00 01 4F 42 00 00 00 00 00 00", nil, api.ErrSetVR, 0},
		{"3: a long head that is cut off", "40 00 00 01 53 51 00 00 00 00", nil, api.ErrSetShort, 0},
		{"3: a long head with eleven bytes", "40 00 00 01 53 51 00 00 00 00 00", nil, api.ErrSetShort, 0},
		{"3: a wrong long head that is cut off", "08 00 60 00 4F 42 00 00 00 00 00", nil, api.ErrSetShort, 0},
		{"3: a wrong long head, whole", "08 00 60 00 4F 42 00 00 00 00 00 00", nil, api.ErrSetVR, 0},
		{"3: a wrong group length that is cut off", "08 00 00 00 55 4E 00 00 00 00 00", nil, api.ErrSetShort, 0},
		{"3: a long head cut off by its room", openE + "FE FF 00 E0 08 00 00 00 19 00 01 10 55 4E 00 00 00 00 00 00 " + seqE, nil, api.ErrSetShort, 20},
		{"3: a group length with other letters", "08 00 00 00 55 53 02 00 01 02", nil, api.ErrSetVR, 0},
		{"3: a group length as UN", "08 00 00 00 55 4E 00 00 04 00 00 00 0A 00 00 00", nil, api.ErrSetVR, 0},
		{"3: a private group length with other letters", "19 00 00 00 4C 4F 02 00 01 02", nil, api.ErrSetVR, 0},
		{"3: UN of a text", "08 00 60 00 55 4E 00 00 04 00 00 00 43 54 20 00", list(ct), 0, 0},
		{"3: UN of a number", "28 00 10 00 55 4E 00 00 02 00 00 00 20 00", list(element(0x00280010, api.VRUS, " \x00")), 0, 0},
		{"3: UN of an unknown attribute", "19 00 01 10 55 4E 00 00 02 00 00 00 43 20", list(element(privateTag, api.VRUN, "C ")), 0, 0},
		{"3: UN of a creator", "19 00 10 00 55 4E 00 00 02 00 00 00 43 20", list(element(creatorTag, api.VRUN, "C ")), 0, 0},

		{"UN of a sequence, defined", "40 00 00 01 55 4E 00 00 12 00 00 00 FE FF 00 E0 0A 00 00 00 " + ctI, steps, 0, 0},
		{"UN of a sequence, undefined", openU + itemO + ctI + itemE + seqE, steps, 0, 0},
		{"UN of a sequence, with letters inside", openU + itemO + ctE + itemE + seqE, nil, api.ErrSetLength, 20},
		{"UN of an unknown sequence", "19 00 01 10 55 4E 00 00 FF FF FF FF FE FF 00 E0 0A 00 00 00 " + ctI + seqE, list(sequence(privateTag, 1), item(1), ct), 0, 0},
		{"UN of an unknown sequence, defined", "19 00 01 10 55 4E 00 00 08 00 00 00 " + item0, list(element(privateTag, api.VRUN, "\xFE\xFF\x00\xE0\x00\x00\x00\x00")), 0, 0},
		{"UN of a creator, undefined", "19 00 10 00 55 4E 00 00 FF FF FF FF " + seqE, list(sequence(creatorTag, 0)), 0, 0},
		{"UN: all inside is Implicit", openU + itemO + openI + itemO + ctI + itemE + seqE + itemE + seqE, append(list(sequence(stepsTag, 1), item(1)), steps...), 0, 0},
		{"UN: behind it letters stand again", openU + itemO + ctI + itemE + seqE + "40 00 01 10 53 48 02 00 50 20", append(list(steps...), element(idTag, api.VRSH, "P")), 0, 0},
		{"UN: behind it in an item letters stand again", openE + itemO + openU + itemO + ctI + itemE + seqE + "40 00 01 10 53 48 02 00 50 20 " + itemE + itemO + ctE + itemE + seqE,
			list(sequence(stepsTag, 2), item(2), sequence(stepsTag, 1), item(1), ct, element(idTag, api.VRSH, "P"), item(1), ct), 0, 0},
		{"letters of a sequence, without letters inside", openE + itemO + ctI + itemE + seqE, nil, api.ErrSetVR, 20},

		{"4: an undefined length of a UN text", "08 00 60 00 55 4E 00 00 FF FF FF FF " + seqE, nil, api.ErrSetLength, 0},
		{"4: an undefined length of bytes", "19 00 01 10 4F 42 00 00 FF FF FF FF " + seqE, nil, api.ErrSetLength, 0},
		{"4: a short undefined length", "08 00 60 00 43 53 FF FF", nil, api.ErrSetLength, 0},
		{"4: an odd length", "08 00 60 00 43 53 03 00 43 54 55", nil, api.ErrSetLength, 0},
		{"4: an odd length of a long head", "40 00 60 A1 55 54 00 00 01 00 00 00 61", nil, api.ErrSetLength, 0},
		{"5: a length above the most", "40 00 60 A1 55 54 00 00 00 00 01 00", nil, api.ErrSetLong, 0},
		{"5: the most of a short head, which is not there", "08 00 60 00 43 53 FE FF", nil, api.ErrSetShort, 0},
		{"5: a sequence above the most", "40 00 00 01 53 51 00 00 00 00 01 00", nil, api.ErrSetShort, 0},
		{"5: two bytes too few", "08 00 60 00 43 53 04 00 43 54", nil, api.ErrSetShort, 0},
		{"5: two bytes too few behind a long head", "40 00 60 A1 55 54 00 00 04 00 00 00 61 20", nil, api.ErrSetShort, 0},
		{"6: a group length", "08 00 00 00 55 4C 04 00 0A 00 00 00 " + ctE, list(ct), 0, 0},
		{"6: a group length of two bytes", "08 00 00 00 55 4C 02 00 0A 00 " + ctE, list(ct), 0, 0},

		{"items: defined lengths", "40 00 00 01 53 51 00 00 12 00 00 00 FE FF 00 E0 0A 00 00 00 " + ctE, steps, 0, 0},
		{"items: undefined lengths", openE + itemO + ctE + itemE + seqE, steps, 0, 0},
		{"items: of an unknown attribute, defined", "19 00 01 10 53 51 00 00 08 00 00 00 " + item0, list(sequence(privateTag, 1), item(0)), 0, 0},
		{"items: of an unknown attribute, undefined", "19 00 01 10 53 51 00 00 FF FF FF FF " + item0 + seqE, list(sequence(privateTag, 1), item(0)), 0, 0},
		{"items: the last end is missing", openE + item0, nil, api.ErrSetShort, 20},
		{"items: an element for an item", openE + ctE + seqE, nil, api.ErrSetTag, 12},
	})
}

func TestDecodeSyntax(t *testing.T) {
	for _, s := range []api.Syntax{0, 3, -1, math.MaxInt, math.MinInt} {
		for _, b := range [][]byte{nil, {}, raw(t, ctI), {1}, make([]byte, 1<<20+1)} {
			wantUnread(t, b, s, api.ErrSetSyntax, 0)
		}
	}
}

// TestDecodeMost looks at both sides of the most bytes.
func TestDecodeMost(t *testing.T) {
	b := inOneForm(tooLong(0), api.Implicit)
	wantNodes(t, b, api.Implicit, tooLong(0))
	for _, s := range bothSyntaxes {
		wantUnread(t, append(b, 0), s, api.ErrSetLong, 1<<20)
		wantUnread(t, make([]byte, 1<<20+1), s, api.ErrSetLong, 1<<20)
		wantUnread(t, make([]byte, 1<<20), s, api.ErrSetTag, 0)
	}
}

// TestDecodeValues looks at both sides of the greatest value.
func TestDecodeValues(t *testing.T) {
	full := list(element(privateTag, api.VRUN, strings.Repeat("x", 65534)))
	more := list(element(privateTag, api.VRUN, strings.Repeat("x", 65536)))
	for _, s := range bothSyntaxes {
		wantNodes(t, inOneForm(full, s), s, full)
		wantUnread(t, inOneForm(more, s), s, api.ErrSetLong, 0)
	}
	// A text that is longer with its padding is refused, though it would not be without.
	padded := list(element(privateTag, api.VRUT, "a"+strings.Repeat(" ", 65535)))
	wantUnread(t, inOneForm(padded, api.Explicit), api.Explicit, api.ErrSetLong, 0)
	short := list(element(codeTag, api.VRCS, strings.Repeat("x", 65533)))
	for _, s := range bothSyntaxes {
		wantNodes(t, inOneForm(short, s), s, short)
	}
}

// TestDecodeDeep looks at both sides of the greatest depth, and at what is told ahead of it and behind.
func TestDecodeDeep(t *testing.T) {
	for _, s := range bothSyntaxes {
		wantNodes(t, inOneForm(deep(4), s), s, deep(4))
		for _, c := range []struct {
			tag    api.Tag
			length uint32
			code   api.Errno
		}{
			{api.TagItem, 0, api.ErrSetDeep}, {api.TagItem, undefinedLength, api.ErrSetDeep}, {api.TagItem, 2, api.ErrSetDeep}, {api.TagItem, 0xFFFFFFFE, api.ErrSetDeep},
			{api.TagItem, 1, api.ErrSetLength}, {codeTag, 0, api.ErrSetTag}, {itemEndTag, 0, api.ErrSetTag}, {sequenceEndTag, 2, api.ErrSetLength},
		} {
			w := writer{explicit: s == api.Explicit}
			var b []byte
			for range 4 {
				b = append(append(b, w.head(stepsTag, "SQ", undefinedLength)...), w.head(api.TagItem, "", undefinedLength)...)
			}
			b = append(b, w.head(stepsTag, "SQ", undefinedLength)...)
			at := len(b)
			b = append(b, w.head(c.tag, "", c.length)...)
			wantUnread(t, b, s, c.code, at)
		}
	}
	// A sequence without items may stand in the deepest item.
	low := append(deep(4)[:8], sequence(stepsTag, 0))
	for _, s := range bothSyntaxes {
		wantNodes(t, inOneForm(low, s), s, low)
	}
}

// TestDecodeMany looks at both sides of the greatest number of nodes, of elements and of items.
func TestDecodeMany(t *testing.T) {
	for _, s := range bothSyntaxes {
		w := writer{explicit: s == api.Explicit}
		whole := inOneForm(many(4096), s)
		wantNodes(t, whole, s, many(4096))
		for _, c := range []struct {
			what string
			more []byte
			code api.Errno
		}{
			{"an element", w.head(0xFFFD0001, "UN", 0), api.ErrSetMany},
			{"a sequence", w.head(0xFFFD0001, "SQ", undefinedLength), api.ErrSetMany},
			{"an element that is too short", w.head(0xFFFD0001, "UN", 2), api.ErrSetShort},
			{"an element that is too long", w.head(0xFFFD0001, "UN", 65536), api.ErrSetLong},
			{"a tag that does not rise", w.head(0x00190100, "UN", 0), api.ErrSetTag},
			{"a group length", w.head(0xFFFD0000, "UL", 0), api.OK},
		} {
			b := append(append([]byte(nil), whole...), c.more...)
			if c.code == api.OK {
				wantNodes(t, b, s, many(4096))
			} else {
				wantUnread(t, b, s, c.code, len(whole))
			}
		}
		holdManyItems(t, s)
	}
}

// holdManyItems: node 4096 is an item, or an item's element.
func holdManyItems(t *testing.T, s api.Syntax) {
	t.Helper()
	w := writer{explicit: s == api.Explicit}
	nodes := list(sequence(stepsTag, 4095))
	for range 4095 {
		nodes = append(nodes, item(0))
	}
	b := inOneForm(nodes, s)
	wantNodes(t, b, s, nodes)
	head := len(w.head(stepsTag, "SQ", 0))
	open := append(w.head(stepsTag, "SQ", undefinedLength), b[head:]...)
	wantNodes(t, append(open[:len(open):len(open)], w.mark(sequenceEndTag)...), s, nodes)
	for _, length := range []uint32{0, undefinedLength} {
		wantUnread(t, append(open[:len(open):len(open)], w.head(api.TagItem, "", length)...), s, api.ErrSetMany, len(open))
	}
	wantUnread(t, append(open[:len(open):len(open)], w.head(api.TagItem, "", 2)...), s, api.ErrSetShort, len(open))
	binary.LittleEndian.PutUint32(open[len(open)-4:], undefinedLength)
	wantUnread(t, append(open[:len(open):len(open)], w.head(codeTag, "CS", 0)...), s, api.ErrSetMany, len(open))
}

// TestDecodeGroupLengths: as many as there may be bytes, and none of them is a node.
func TestDecodeGroupLengths(t *testing.T) {
	for _, s := range bothSyntaxes {
		w := writer{explicit: s == api.Explicit}
		var b []byte
		for g := api.Tag(3); g <= 0xFFFD; g++ {
			b = append(b, w.head(g<<16, "UL", 0)...)
		}
		wantNodes(t, b, s, nil)
	}
}
