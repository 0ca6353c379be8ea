package dump_test

import (
	"math"
	"math/rand"
	"strings"
	"testing"

	"modality/api"
	"modality/dict"
	"modality/dump"
)

// TestPrintLayout: lines, spaces and braces.
func TestPrintLayout(t *testing.T) {
	for _, c := range []struct {
		nodes []api.Node
		text  string
	}{
		{nil, ""},
		{list(element(codeTag, api.VRCS, "CT")), "(0008,0060) CS \"CT\"\n"},
		{list(element(codeTag, api.VRCS, "CT"), element(idTag, api.VRLO, "7")), "(0008,0060) CS \"CT\"\n(0010,0020) LO \"7\"\n"},
		{list(element(0x00100010, api.VRPN, "Doe^Jane"), sequence(stepsTag, 2), item(1), element(codeTag, api.VRCS, `CT\MR`), item(0)),
			"(0010,0010) PN \"Doe^Jane\"\n(0040,0100) SQ {\n  item {\n    (0008,0060) CS \"CT\"\\\"MR\"\n  }\n  item {}\n}\n"},
		{list(sequence(stepsTag, 0)), "(0040,0100) SQ {}\n"},
		{list(sequence(stepsTag, 1), item(0)), "(0040,0100) SQ {\n  item {}\n}\n"},
		{list(sequence(stepsTag, 1), item(2), sequence(0x00081110, 0), sequence(stepsTag, 1), item(1), element(codeTag, api.VRCS, "CT"), element(0x00401001, api.VRSH, "P")),
			"(0040,0100) SQ {\n  item {\n    (0008,1110) SQ {}\n    (0040,0100) SQ {\n      item {\n        (0008,0060) CS \"CT\"\n      }\n    }\n  }\n}\n(0040,1001) SH \"P\"\n"},
		{list(sequence(privateTag, 1), item(1), sequence(privateTag, 1), item(1), sequence(privateTag, 1), item(1), sequence(privateTag, 1), item(1), sequence(privateTag, 0)),
			"(0009,1001) SQ {\n  item {\n    (0009,1001) SQ {\n      item {\n        (0009,1001) SQ {\n          item {\n            (0009,1001) SQ {\n              item {\n                (0009,1001) SQ {}\n" +
				"              }\n            }\n          }\n        }\n      }\n    }\n  }\n}\n"},
		{list(element(0xFFFDFFFF, api.VRUN, "")), "(FFFD,FFFF) UN x\n"},
	} {
		wantText(t, c.nodes, c.text)
		if got := modelPrint(c.nodes); got != c.text {
			t.Errorf("the model writes %q, want %q", got, c.text)
		}
	}
	if text, err := dump.Print([]api.Node{}); text != "" || err != nil {
		t.Errorf("P7.1: an empty list: %q, %v", text, err)
	}
}

// TestPrintValues: the value of every VR.
func TestPrintValues(t *testing.T) {
	for _, c := range []struct {
		vr    api.VR
		value string
		text  string
	}{
		{api.VRAE, `A\B`, `AE "A"\"B"`},
		{api.VRAS, "010Y", `AS "010Y"`},
		{api.VRCS, `A\\B`, `CS "A"\""\"B"`},
		{api.VRDA, `20240101\20240102`, `DA "20240101"\"20240102"`},
		{api.VRDS, `1.5\2`, `DS "1.5"\"2"`},
		{api.VRDT, "2024", `DT "2024"`},
		{api.VRIS, `1\2\3`, `IS "1"\"2"\"3"`},
		{api.VRLO, `\`, `LO ""\""`},
		{api.VRPN, `Müller^Jürgen\Yamada=山田`, `PN "Müller^Jürgen"\"Yamada=山田"`},
		{api.VRSH, `\A`, `SH ""\"A"`},
		{api.VRTM, `A\`, `TM "A"\""`},
		{api.VRUC, `a\b`, `UC "a"\"b"`},
		{api.VRUI, `1.2\3.4`, `UI "1.2"\"3.4"`},
		{api.VRLT, `a\b`, `LT "a\\b"`},
		{api.VRST, "a\r\nb\\", `ST "a\x0d\x0ab\\"`},
		{api.VRUT, `\\`, `UT "\\\\"`},
		{api.VRUR, `a"b`, `UR "a\"b"`},

		{api.VRLO, " a", `LO " a"`},
		{api.VRLO, "a\x00\x01\x1F \x7E\x7F\u0080\u009F", "LO \"a\\x00\\x01\\x1f ~\\x7f\u0080\u009F\""},
		{api.VRLO, "\x80\xFF", `LO "\x80\xff"`},
		{api.VRLO, "a\xC3\xA9\xC3b", `LO "aé\xc3b"`},
		{api.VRLO, "\xE6\x97\xE6\x97\xA5", `LO "\xe6\x97日"`},
		{api.VRLO, "\xC0\x80\xED\xA0\x80\xF4\x90\x80\x80", `LO "\xc0\x80\xed\xa0\x80\xf4\x90\x80\x80"`},
		{api.VRLO, "\uFFFD\U0010FFFF", "LO \"\uFFFD\U0010FFFF\""},
		{api.VRLO, `"\"`, `LO "\""\"\""`},
		{api.VRLO, "a#{}'(", `LO "a#{}'("`},

		{api.VRUS, "\x01\x00\xFF\xFF", `US 1\65535`},
		{api.VRSS, "\x01\x00\xFF\xFF\xFF\x7F\x00\x80", `SS 1\-1\32767\-32768`},
		{api.VRUL, "\x00\x00\x00\x00\xFF\xFF\xFF\xFF", `UL 0\4294967295`},
		{api.VRSL, "\xFF\xFF\xFF\xFF\xFF\xFF\xFF\x7F\x00\x00\x00\x80", `SL -1\2147483647\-2147483648`},
		{api.VRAT, "\x10\x00\x20\x00\xCD\xAB\x01\xEF\x00\x00\x00\x00\xFF\xFF\xFF\xFF", `AT (0010,0020)\(ABCD,EF01)\(0000,0000)\(FFFF,FFFF)`},
		{api.VRUL, "\xFF\xFF", `UL xffff`},
		{api.VRUL, "\x01\x02\x03\x04\x05\x06", `UL x010203040506`},
		{api.VRSL, "\xAB\xCD", `SL xabcd`},
		{api.VRAT, "\x10\x00\x20\x00\x10\x00", `AT x100020001000`},
		{api.VRFL, "\x00\x00\xC0\x3F\x00\x00", `FL x0000c03f0000`},
		{api.VRFD, "\x00\x00\x00\x00\x00\x00", `FD x000000000000`},
		{api.VRFD, "\x00\x00\xC0\x3F\x00\x00\x00\x00\x00\x00\x00\x00", `FD x0000c03f0000000000000000`},
		{api.VROB, "\x01\xAB", "OB x01ab"},
		{api.VROW, "\x00\x01\x02\xFE", "OW x000102fe"},
		{api.VRUN, "A\\", "UN x415c"},
	} {
		wantText(t, list(element(0x0019ABCD, c.vr, c.value)), "(0019,ABCD) "+c.text+"\n")
	}
}

// TestPrintEmpty: an empty Value is quoted for the text VRs and UI, and no digits for the others.
func TestPrintEmpty(t *testing.T) {
	for v := api.VRAE; v < api.VRItem; v++ {
		word := dict.VRWord(v)
		switch {
		case v == api.VRSQ:
			wantText(t, list(element(privateTag, v, "")), "(0009,1001) SQ {}\n")
		case strings.Contains("AE AS CS DA DS DT IS LO LT PN SH ST TM UC UI UR UT", word):
			wantText(t, list(element(privateTag, v, "")), "(0009,1001) "+word+" \"\"\n")
		default:
			wantText(t, list(element(privateTag, v, "")), "(0009,1001) "+word+" x\n")
		}
	}
}

// TestPrintFloats: the shortest form, and bytes where one number is not finite.
func TestPrintFloats(t *testing.T) {
	for bits, text := range map[uint32]string{
		math.Float32bits(0):                      "0",
		1 << 31:                                  "-0",
		math.Float32bits(1):                      "1",
		math.Float32bits(-1.5):                   "-1.5",
		math.Float32bits(0.1):                    "0.1",
		math.Float32bits(100000):                 "100000",
		math.Float32bits(1e20):                   "1e+20",
		math.Float32bits(1e21):                   "1e+21",
		math.Float32bits(16777216):               "1.6777216e+07",
		math.Float32bits(123456):                 "123456",
		math.Float32bits(1000000):                "1e+06",
		math.Float32bits(0.0001):                 "0.0001",
		math.Float32bits(0.00001):                "1e-05",
		1:                                        "1e-45",
		0x7F7FFFFF:                               "3.4028235e+38",
		0xFF7FFFFF:                               "-3.4028235e+38",
		0x7F800000:                               "x0000807f",
		0xFF800000:                               "x000080ff",
		0x7FC00001:                               "x0100c07f",
		math.Float32bits(float32(math.Exp2(60))): "1.1529215e+18",
	} {
		wantText(t, list(element(privateTag, api.VRFL, lowFirst(uint64(bits), 4))), "(0009,1001) FL "+text+"\n")
	}
	for bits, text := range map[uint64]string{
		math.Float64bits(0.1):        "0.1",
		1 << 63:                      "-0",
		math.Float64bits(16777216):   "1.6777216e+07",
		math.Float64bits(1e-7):       "1e-07",
		1:                            "5e-324",
		0x7FEFFFFFFFFFFFFF:           "1.7976931348623157e+308",
		0x7FF0000000000000:           "x000000000000f07f",
		0xFFF0000000000000:           "x000000000000f0ff",
		0x7FF0000000000001:           "x010000000000f07f",
		math.Float64bits(1.0 / 3):    "0.3333333333333333",
		math.Float64bits(1234567890): "1.23456789e+09",
	} {
		wantText(t, list(element(privateTag, api.VRFD, lowFirst(bits, 8))), "(0009,1001) FD "+text+"\n")
	}
	one, none := lowFirst(uint64(math.Float32bits(1)), 4), lowFirst(0x7F800000, 4)
	wantText(t, list(element(privateTag, api.VRFL, one+one)), "(0009,1001) FL 1\\1\n")
	wantText(t, list(element(privateTag, api.VRFL, none+one)), "(0009,1001) FL x0000807f0000803f\n")
	wantText(t, list(element(privateTag, api.VRFL, one+none)), "(0009,1001) FL x0000803f0000807f\n")
	wantText(t, list(element(privateTag, api.VRFD, lowFirst(math.Float64bits(2), 8)+lowFirst(math.Float64bits(-3), 8))), "(0009,1001) FD 2\\-3\n")
}

func lowFirst(n uint64, size int) string {
	var b []byte
	for range size {
		b = append(b, byte(n))
		n >>= 8
	}
	return string(b)
}

// TestPrintBytes: every byte, and every two, in quotes.
func TestPrintBytes(t *testing.T) {
	t.Parallel()
	for a := range 256 {
		for b := range 256 {
			value := string([]byte{'<', byte(a), byte(b), '>'})
			nodes := list(element(0x00104000, api.VRLT, value), element(0x0040A160, api.VRUT, value[:2]+">"))
			wantText(t, nodes, "(0010,4000) LT "+modelQuoted(value)+"\n(0040,A160) UT "+modelQuoted(value[:2]+">")+"\n")
		}
	}
}

// TestPrintRandom: sets of all kinds against the model.
func TestPrintRandom(t *testing.T) {
	t.Parallel()
	r := rand.New(rand.NewSource(1))
	for range 8000 {
		nodes := someSet(r)
		wantText(t, nodes, modelPrint(nodes))
	}
}

// TestPrintUnformed: what layer 3 refuses is refused at its place, with its fault behind.
func TestPrintUnformed(t *testing.T) {
	ct := element(codeTag, api.VRCS, "CT")
	for _, c := range []struct {
		nodes []api.Node
		at    int
	}{
		{list(ct, ct), 1},
		{list(element(idTag, api.VRLO, "a"), ct), 1},
		{list(element(codeTag, api.VRLO, "CT")), 0},
		{list(element(codeTag, api.VRCS, "CT ")), 0},
		{list(ct, element(rowsTag, api.VRUS, "a")), 1},
		{list(element(privateTag, api.VRNone, "")), 0},
		{list(element(privateTag, 99, "")), 0},
		{list(element(privateTag, -1, "")), 0},
		{list(element(0x00020010, api.VRUI, "1.2")), 0},
		{list(item(0)), 0},
		{list(sequence(stepsTag, 1)), 1},
		{list(sequence(stepsTag, 1), item(1)), 2},
		{list(sequence(stepsTag, -1)), 0},
		{list(sequence(stepsTag, 1<<62), item(0)), 2},
		{list(element(privateTag, api.VRUN, strings.Repeat("a", 65536))), 0},
		{many(4097), 4096},
		{deep(5), 9},
	} {
		wantUnwritten(t, c.nodes, func(err error) bool { return isUnformed(err, c.at) })
	}
}

// many gives so many elements that rise.
func many(count int) []api.Node {
	var nodes []api.Node
	for i := range count {
		nodes = append(nodes, element(privateTag+api.Tag(i), api.VRUN, ""))
	}
	return nodes
}

// deep gives items in one another, so many.
func deep(depth int) []api.Node {
	var nodes []api.Node
	for range depth {
		nodes = append(nodes, sequence(stepsTag, 1), item(1))
	}
	nodes[len(nodes)-1].N = 0
	return nodes
}

// TestPrintLimits: at the limits all is as below them.
func TestPrintLimits(t *testing.T) {
	for _, nodes := range [][]api.Node{many(4096), deep(4), list(element(privateTag, api.VRUN, strings.Repeat("\xFE", 65534)))} {
		wantText(t, nodes, modelPrint(nodes))
	}
}

// longSet gives a data set whose text has so many bytes, at least a million.
func longSet(size int) []api.Node {
	nodes := list(element(creatorTag, api.VRLO, ""))
	const line = len("(0009,1001) OB x\n")
	size -= len("(0009,0010) LO \"\"\n")
	for i := range 7 {
		nodes = append(nodes, element(privateTag+api.Tag(i), api.VROB, strings.Repeat("\x00", 65534)))
		size -= line + 2*65534
	}
	half := size / 2
	nodes = append(nodes, element(privateTag+7, api.VRLO, strings.Repeat("a", half-line-1)))
	nodes[0].Value = strings.Repeat("b", size-half)
	return nodes
}

// TestPrintLong: the longest text, and one that has a byte more; what is not well formed is told first.
func TestPrintLong(t *testing.T) {
	most := longSet(1048576)
	if size := len(modelPrint(most)); size != 1048576 {
		t.Fatalf("the longest text has %d bytes", size)
	}
	wantText(t, most, modelPrint(most))
	wantUnwritten(t, longSet(1048577), isLong)
	wantUnwritten(t, append(longSet(1048576), element(idTag, api.VRLO, "")), isLong)
	wantUnwritten(t, append(longSet(1048576), sequence(stepsTag, 0)), isLong)
	wantUnwritten(t, append(longSet(1048577), element(creatorTag, api.VRLO, "")), func(err error) bool { return isUnformed(err, 9) })
	full := many(4096)
	for i := range full {
		full[i].Value = strings.Repeat("a", 65534)
	}
	wantUnwritten(t, full, isLong)
	// What closes an item and a sequence counts.
	inside := len(modelPrint(list(sequence(0x00080082, 1), item(1), element(idTag, api.VRLO, ""))))
	in := append(list(sequence(0x00080082, 1), item(1), element(idTag, api.VRLO, "")), longSet(1048576-inside)...)
	if size := len(modelPrint(in)); size != 1048576 {
		t.Fatalf("the longest text has %d bytes", size)
	}
	wantText(t, in, modelPrint(in))
	in[2].Value = "c"
	wantUnwritten(t, in, isLong)
	whole := longSet(1048400)
	around := append(list(sequence(privateTag, 1), item(len(whole))), whole...)
	spare := 1048576 - len(modelPrint(around))
	around[2].Value += strings.Repeat("d", spare)
	wantText(t, around, modelPrint(around))
	around[2].Value += "d"
	wantUnwritten(t, around, isLong)
}
