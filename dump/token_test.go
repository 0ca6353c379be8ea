package dump_test

import (
	"fmt"
	"strings"
	"testing"

	"modality/api"
)

// TestBlanks: what parts tokens, and what is let go with it.
func TestBlanks(t *testing.T) {
	want := list(element(idTag, api.VRLO, "a"), element(rowsTag, api.VRUS, "\x05\x00"))
	for _, text := range []string{
		"PatientID\"a\"Rows 5",
		"\t\n\r PatientID\t\n\r \"a\"\t\n\r Rows\t\n\r 5\t\n\r ",
		"PatientID LO\"a\"Rows US 5",
		"#\nPatientID#x\"b\n\"a\"#\r Rows 7\nRows#\n5#",
		"# only a line feed ends this \r PatientID \"b\"\nPatientID \"a\" Rows 5# and the text's end",
		"##\n#\"\n#;\n#(\nPatientID \"a\" Rows 5 #",
		"(0010,0020)\"a\"(0028,0010)5",
		"(0010,0020)LO\"a\"(0028,0010)US 5",
	} {
		wantNodes(t, text, want)
	}
	wantNodes(t, `PatientID "a # b"`, list(element(idTag, api.VRLO, "a # b")))
	for _, text := range []string{"", " ", "\n", "#", "# a", "\r\n\t #\n", "#\n#"} {
		wantNodes(t, text, nil)
	}
	for c := range 256 {
		text := "PatientID" + string([]byte{byte(c)}) + "\"a\""
		switch {
		case c == '\t' || c == '\n' || c == '\r' || c == ' ':
			wantNodes(t, text, want[:1])
		case c == '#':
			wantUnread(t, text, api.ErrDumpForm, len(text))
		default:
			_, code, _ := holdModel(t, text)
			if code == api.OK {
				t.Errorf("byte %d is taken for a blank", c)
			}
		}
	}
}

// TestFirstBytes: which bytes begin a token; all others are refused ahead of everything that the tokens say.
func TestFirstBytes(t *testing.T) {
	const begin = "\"#(-0123456789ABCDEFGHIJKLMNOPQRSTUVWXYZ\\abcdefghijklmnopqrstuvwxyz{}\t\n\r "
	for c := range 256 {
		text := "} " + string([]byte{byte(c)})
		switch {
		case c == '"' || c == '(':
			wantUnread(t, text, api.ErrDumpToken, 2)
		case strings.IndexByte(begin, byte(c)) >= 0:
			wantUnread(t, text, api.ErrDumpForm, 0)
		default:
			wantUnread(t, text, api.ErrDumpToken, 2)
		}
	}
}

// TestTagTokens: a tag has just one form.
func TestTagTokens(t *testing.T) {
	for _, tag := range []string{"(0010,0020)", "(FFFC,FFFC)", "(fffc,fffc)", "(FffC,fFFc)", "(abcd,ef01)", "(6002,3000)"} {
		if _, code, _ := holdModel(t, tag+" x"); code != api.OK {
			t.Errorf("%s is no tag: %d", tag, code)
		}
	}
	for _, tag := range []string{
		"(", "()", "(0010", "(0010,0020", "(0010,0020]", "(0010 0020)", "(0010;0020)", "(00100020)", "(0010,002)", "(0010,00200)", "(00100,020)", "(0010, 020)", "( 010,0020)",
		"(0010,002g)", "(001G,0020)", "(0010,-020)", "(0010,+020)", "(0x10,0020)", "(0010,00_0)", "(0010,\n020)", "(0010,0020\n)", "(PatientID)", "(0010,002\xC3\xA9)",
	} {
		wantUnread(t, "PatientID "+tag, api.ErrDumpToken, 10)
		wantUnread(t, "PatientID "+tag+" x", api.ErrDumpToken, 10)
	}
}

// TestWordTokens: a word goes on as long as it can, and one that begins with x may be bytes.
func TestWordTokens(t *testing.T) {
	for _, text := range []string{"x", "x0000", "xAf09", "xabcdefABCDEF", "x01234567890A"} {
		if nodes, code, _ := holdModel(t, "(0009,1001) "+text); code != api.OK || len(nodes[0].Value) != len(text)/2 {
			t.Errorf("P7.2: %s: %s, %d", text, shown(nodes), code)
		}
	}
	for _, text := range []string{"X", "X00", "xg", "x0g", "x00g", "xx", "x00x", "xX", "a00", "x0G0", "xz"} {
		wantUnread(t, "(0009,1001) "+text, api.ErrDumpVR, 12)
		wantUnread(t, "(0009,1001) UN "+text, api.ErrDumpForm, 15)
		wantUnread(t, text+" 5", api.ErrDumpTag, 0)
	}
	wantUnread(t, "x00 5", api.ErrDumpForm, 0)
	wantUnread(t, "(0009,1001) x0000-1", api.ErrDumpForm, 17)
	wantUnread(t, "(0009,1001) x00_", api.ErrDumpToken, 15)
	wantUnread(t, "Rows5", api.ErrDumpTag, 0)
	wantUnread(t, "Rows 5e5Rows 5", api.ErrDumpValue, 5)
	wantNodes(t, "Rows 5Columns 6", list(element(rowsTag, api.VRUS, "\x05\x00"), element(rowsTag+1, api.VRUS, "\x06\x00")))
}

// TestQuotedBytes: which bytes may stand between quotes, and which behind a backslash.
func TestQuotedBytes(t *testing.T) {
	t.Parallel()
	for c := range 256 {
		b := string([]byte{byte(c)})
		for _, text := range []string{"TextValue \"" + b + ".\"", "TextValue \"\\" + b + ".\"", "TextValue \"\\" + b, "TextValue \"" + b} {
			holdModel(t, text)
		}
		plain := c >= 32 && c != 127 && c != '"' && c != '\\'
		if _, code, _ := modelParse("TextValue \"" + b + ".\""); (code == api.OK) != plain {
			t.Errorf("the model takes byte %d: %v", c, !plain)
		}
		for d := range 256 {
			pair := b + string([]byte{byte(d)})
			holdModel(t, "TextValue \"\\x"+pair+".\"")
			holdModel(t, "TextValue \"\\"+pair+".\"")
		}
	}
	for n := range 256 {
		for _, form := range []string{`TextValue "\x%02x."`, `TextValue "\x%02X."`} {
			wantNodes(t, fmt.Sprintf(form, n), list(element(0x0040A160, api.VRUT, string([]byte{byte(n), '.'}))))
		}
	}
}

// TestQuotedTokens: where a quoted token ends, and where it is none.
func TestQuotedTokens(t *testing.T) {
	for text, value := range map[string]string{
		`""`:                  "",
		`"a"`:                 "a",
		`"\""`:                `"`,
		`"\\"`:                `\`,
		`"\\\""`:              `\"`,
		`"\"\\"`:              `"\`,
		`"\\\\"`:              `\\`,
		`"\x22\x5c\x5C"`:      `"\\`,
		`"\x41\x4a\x4A\x0a."`: "AJJ\n.",
		`"\\x41"`:             `\x41`,
		`"é日"`:                "é日",
		"\"\xFF\x80\"":        "\xFF\x80",
		`"'#(){}"`:            `'#(){}`,
	} {
		wantNodes(t, "TextValue "+text, list(element(0x0040A160, api.VRUT, value)))
	}
	for _, text := range []string{
		`"`, `"a`, `"\"`, `"\`, `"\\\"`, `"\a"`, `"\n"`, `"\X41"`, `"\x"`, `"\x4"`, `"\x4`, `"\x`, `"\x4g"`, `"\xg4"`, `"\x 4"`, `"\x+4"`, `"\x-4"`, `"\x_4"`, `"\0"`, `"\'"`,
		"\"a\nb\"", "\"a\tb\"", "\"\x00\"", "\"\x7F\"", "\"a\\\nb\"", "\"a\\\x7F\"", "\"\\\xFF\"",
	} {
		wantUnread(t, "TextValue "+text, api.ErrDumpToken, 10)
		wantUnread(t, `TextValue "fine" `+text+" ;", api.ErrDumpToken, 17)
	}
	wantUnread(t, `TextValue "a"b"`, api.ErrDumpToken, 14)
	wantUnread(t, `TextValue "a""b"`, api.ErrDumpForm, 13)
}

// TestTokensFirst: what is no token is told ahead of all that tokens say, the first of several.
func TestTokensFirst(t *testing.T) {
	wantUnread(t, `} ; "`, api.ErrDumpToken, 2)
	wantUnread(t, `Nonsense "a" Rows LO 5 (`, api.ErrDumpToken, 23)
	wantUnread(t, "PatientID \"a \" item\n(0010,0010 ;", api.ErrDumpToken, 20)
	wantUnread(t, `; "`, api.ErrDumpToken, 0)
	wantUnread(t, "Rows +5", api.ErrDumpToken, 5)
	wantUnread(t, "Rows .5", api.ErrDumpToken, 5)
	wantUnread(t, "Rows [5]", api.ErrDumpToken, 5)
	wantUnread(t, "Rows 5,", api.ErrDumpToken, 6)
	wantUnread(t, "Rows 5é", api.ErrDumpToken, 6)
	wantUnread(t, "\uFEFFRows 5", api.ErrDumpToken, 0)
}
