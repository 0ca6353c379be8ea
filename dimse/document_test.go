package dimse_test

import (
	"strconv"
	"strings"
	"testing"

	"modality/api"
	"modality/dict"
)

// elementTable is the document's table of elements, without the group length and without what is said of the fields.
const elementTable = `| (0000,0002) | AffectedSOPClassUID | UI | 1 | a
| (0000,0003) | RequestedSOPClassUID | UI | 1 | r
| (0000,0100) | CommandField | US | 0 |
| (0000,0110) | MessageID | US | 3 |
| (0000,0120) | MessageIDBeingRespondedTo | US | 4 |
| (0000,0700) | Priority | US | 5 |
| (0000,0800) | CommandDataSetType | US | 6 |
| (0000,0900) | Status | US | 7 |
| (0000,0901) | OffendingElement | AT | 8 |
| (0000,0902) | ErrorComment | LO | 9 |
| (0000,0903) | ErrorID | US | 10 |
| (0000,1000) | AffectedSOPInstanceUID | UI | 2 | a
| (0000,1001) | RequestedSOPInstanceUID | UI | 2 | r
| (0000,1005) | AttributeIdentifierList | AT | 11 |`

// commandTable is the document's table of commands; the columns behind the mark: Class, Instance, Id, To, Priority, Status, Offending with Comment and ErrorId, Attrs.
const commandTable = `| 0001H | C-STORE-RQ | a | M | M | M | - | M | - | - | - |
| 0010H, 0020H, 0021H | C-GET-RQ, C-FIND-RQ, C-MOVE-RQ | a | M | - | M | - | M | - | - | - |
| 0030H | C-ECHO-RQ | a | M | - | M | - | - | - | - | - |
| 0100H | N-EVENT-REPORT-RQ | a | M | M | M | - | - | - | - | - |
| 0110H | N-GET-RQ | r | M | M | M | - | - | - | - | O |
| 0120H, 0130H, 0150H | N-SET-RQ, N-ACTION-RQ, N-DELETE-RQ | r | M | M | M | - | - | - | - | - |
| 0140H | N-CREATE-RQ | a | M | O | M | - | - | - | - | - |
| 0FFFH | C-CANCEL-RQ | a | - | - | - | M | - | - | - | - |
| 8001H, 8010H, 8020H, 8021H, 8030H, 8100H, 8110H, 8120H, 8130H, 8140H, 8150H | the answers | a | O | O | - | M | - | M | O | O |`

// line is a line of the table of elements.
type line struct {
	number  uint16
	keyword string
	vr      string
	place   int
	mark    string // "": every command's
}

// row is a command: its mark, and what it makes of each field, by the fields' places.
type row struct {
	mark string
	uses [12]string
}

// use tells what the command makes of an element.
func (r row) use(l line) string {
	if l.mark != "" && l.mark != r.mark {
		return "-"
	}
	return r.uses[l.place]
}

// document is the document's two tables, read.
type document struct {
	lines []line
	rows  map[uint16]row
}

// number16 reads hexadecimal digits that the document has.
func number16(s string) uint16 {
	n, err := strconv.ParseUint(s, 16, 16)
	if err != nil {
		panic(s)
	}
	return uint16(n)
}

// columns parts a line of a table.
func columns(s string) []string {
	list := strings.Split(strings.TrimPrefix(s, "|"), "|")
	for i := range list {
		list[i] = strings.TrimSpace(list[i])
	}
	return list
}

func readDocument() *document {
	d := &document{rows: map[uint16]row{}}
	for _, s := range strings.Split(elementTable, "\n") {
		c := columns(s)
		place, err := strconv.Atoi(c[3])
		if err != nil {
			panic(s)
		}
		d.lines = append(d.lines, line{number16(c[0][6:10]), c[1], c[2], place, c[4]})
	}
	for _, s := range strings.Split(commandTable, "\n") {
		c := columns(s)
		r := row{c[2], [12]string{"M", c[3], c[4], c[5], c[6], c[7], "M", c[8], c[9], c[9], c[9], c[10]}}
		for _, field := range strings.Split(c[0], ", ") {
			d.rows[number16(strings.TrimSuffix(field, "H"))] = r
		}
	}
	return d
}

// TestDocument: the test's tables are whole, and say what the dictionary says.
func TestDocument(t *testing.T) {
	d := readDocument()
	if len(d.lines) != 14 || len(d.rows) != 23 {
		t.Fatalf("the test's tables are %d elements and %d commands", len(d.lines), len(d.rows))
	}
	for i, l := range d.lines {
		e, known := dict.Find(api.Tag(l.number))
		if !known || e.Keyword != l.keyword || dict.VRWord(e.VR) != l.vr {
			t.Errorf("%04X is %s %s in the dictionary", l.number, dict.VRWord(e.VR), e.Keyword)
		}
		if i > 0 && d.lines[i-1].number >= l.number {
			t.Errorf("%04X does not rise", l.number)
		}
	}
}
