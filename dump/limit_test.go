package dump_test

import (
	"fmt"
	"strings"
	"testing"

	"modality/api"
)

// TestTextLimit: the longest text that is read, and one that has a byte more, whatever is in it.
func TestTextLimit(t *testing.T) {
	const most = 1048576
	fill := func(text string, size int) string { return text + strings.Repeat(" ", size-len(text)) }
	wantNodes(t, fill("", most), nil)
	wantNodes(t, fill("Rows 5", most), list(element(rowsTag, api.VRUS, "\x05\x00")))
	wantNodes(t, "Rows 5 #"+strings.Repeat(";", most-8), list(element(rowsTag, api.VRUS, "\x05\x00")))
	wantUnread(t, fill("Rows", most), api.ErrDumpForm, most)
	wantUnread(t, strings.Repeat(" ", most-1)+"}", api.ErrDumpForm, most-1)
	wantUnread(t, strings.Repeat(" ", most-1)+";", api.ErrDumpToken, most-1)
	wantUnread(t, strings.Repeat("}", most), api.ErrDumpForm, 0)
	wantUnread(t, strings.Repeat("{", most), api.ErrDumpForm, 0)
	wantUnread(t, strings.Repeat("a", most), api.ErrDumpTag, 0)
	wantUnread(t, `"`+strings.Repeat("a", most-1), api.ErrDumpToken, 0)
	wantUnread(t, strings.Repeat(`"`, most), api.ErrDumpForm, 0)
	for _, text := range []string{fill("", most+1), fill("Rows 5", most+1), fill("; }", most+1), strings.Repeat("}", 3*most), fill(`"`, most+1)} {
		wantUnread(t, text, api.ErrDumpLong, most)
	}
}

// TestDepthLimit: items in one another.
func TestDepthLimit(t *testing.T) {
	in := func(depth int) string {
		return strings.Repeat("(0040,0100){item{", depth) + strings.Repeat("}}", depth)
	}
	for depth := 1; depth <= 4; depth++ {
		wantNodes(t, in(depth), deep(depth))
	}
	for _, depth := range []int{5, 6, 1000, 50000} {
		wantUnread(t, in(depth), api.ErrDumpDeep, 4*17+12)
	}
	// A sequence may be deeper, as long as it has no items.
	four := strings.Repeat("(0040,0100){item{", 4)
	nodes := append(deep(4), sequence(stepsTag, 0))
	nodes[7].N = 1
	wantNodes(t, four+"(0040,0100){}"+strings.Repeat("}}", 4), nodes)
	wantUnread(t, four+"(0040,0100){item", api.ErrDumpDeep, 4*17+12)
	wantUnread(t, four+"(0040,0100){Rows", api.ErrDumpForm, 4*17+12)
	wantUnread(t, "(0009,1001)SQ{}"+four+"}item{}item{(0040,0100){item{", api.ErrDumpDeep, 15+4*17+24)
	// Beside one another they are as deep as one.
	wantNodes(t, "(0040,0100){item{}item{}item{}item{}item{}}", list(sequence(stepsTag, 5), item(0), item(0), item(0), item(0), item(0)))
}

// lines gives the text of as many elements as many gives.
func lines(count int) string {
	var text strings.Builder
	for i := range count {
		fmt.Fprintf(&text, "(0009,%04X)x ", 0x1001+i)
	}
	return text.String()
}

// TestNodesLimit: as many nodes as may be, and one more, which may be an element or an item.
func TestNodesLimit(t *testing.T) {
	wantNodes(t, lines(4096), many(4096))
	const size = len("(0009,1001)x ")
	full := 4096 * size
	wantUnread(t, lines(4097), api.ErrDumpDeep, full)
	wantUnread(t, lines(4096)+"PatientID", api.ErrDumpDeep, full)
	wantUnread(t, lines(4096)+"PatientID LO LO", api.ErrDumpDeep, full)
	// The reasons ahead of it in the list hold ahead of it.
	wantUnread(t, lines(4096)+"Nonsense", api.ErrDumpTag, full)
	wantUnread(t, lines(4096)+"(0009,1001)x", api.ErrDumpOrder, full)
	wantUnread(t, lines(4096)+"5", api.ErrDumpForm, full)
	wantUnread(t, lines(4096)+"}", api.ErrDumpForm, full)
	wantUnread(t, lines(4096)+";", api.ErrDumpToken, full)

	almost := lines(4095)
	wantNodes(t, almost+"(0040,0100){}", append(many(4095), sequence(stepsTag, 0)))
	wantUnread(t, almost+"(0040,0100){item{}}", api.ErrDumpDeep, 4095*size+12)
	wantUnread(t, almost+"(0040,0100){item", api.ErrDumpDeep, 4095*size+12)
	wantUnread(t, almost+"(0040,0100){Rows", api.ErrDumpForm, 4095*size+12)
	wantUnread(t, lines(4094)+"(0040,0100){item{Rows 5}}", api.ErrDumpDeep, 4094*size+17)
	wantUnread(t, lines(4094)+"(0040,0100){item{}item{}}", api.ErrDumpDeep, 4094*size+18)
	wantNodes(t, lines(4094)+"(0040,0100){item{}}", append(many(4094), sequence(stepsTag, 1), item(0)))

	inside := append(list(sequence(stepsTag, 1), item(4094)), many(4094)...)
	wantNodes(t, "(0040,0100){item{"+lines(4094)+"}}", inside)
	wantUnread(t, "(0040,0100){item{"+lines(4094)+"}}Rows5", api.ErrDumpTag, 17+4094*size+2)
	wantUnread(t, "(0040,0100){item{"+lines(4094)+"}}(0040,1001)", api.ErrDumpDeep, 17+4094*size+2)
}

// TestValueLimit: the longest values, however they are told.
func TestValueLimit(t *testing.T) {
	a := strings.Repeat("a", 65534)
	wantNodes(t, `PatientID "`+a+`"`, list(element(idTag, api.VRLO, a)))
	wantNodes(t, `TextValue "`+a+`"`, list(element(0x0040A160, api.VRUT, a)))
	wantNodes(t, "PatientID x"+strings.Repeat("61", 65534), list(element(idTag, api.VRLO, a)))
	wantNodes(t, `PatientID "`+strings.Repeat(`\x61`, 65534)+`"`, list(element(idTag, api.VRLO, a)))
	wantNodes(t, `PatientID ""`+strings.Repeat(`\""`, 65534), list(element(idTag, api.VRLO, strings.Repeat(`\`, 65534))))
	wantNodes(t, `PatientID "`+a[:65530]+`"\"bcd"`, list(element(idTag, api.VRLO, a[:65530]+`\bcd`)))
	wantNodes(t, `(0009,1001) x`+strings.Repeat("20", 65534), list(element(privateTag, api.VRUN, strings.Repeat(" ", 65534))))
	wantNodes(t, `Rows 1`+strings.Repeat(`\1`, 32766), list(element(rowsTag, api.VRUS, strings.Repeat("\x01\x00", 32767))))
	wantNodes(t, `(0009,1001) FD 0`+strings.Repeat(`\0`, 8190), list(element(privateTag, api.VRFD, strings.Repeat("\x00", 8*8191))))

	wantUnread(t, `PatientID "`+a+`a"`, api.ErrDumpValue, 10)
	wantUnread(t, `PatientID "`+a+a+a+`"`, api.ErrDumpValue, 10)
	wantUnread(t, `TextValue "`+a+`a"`, api.ErrDumpValue, 10)
	wantUnread(t, "PatientID x"+strings.Repeat("61", 65535), api.ErrDumpValue, 10)
	wantUnread(t, `PatientID ""`+strings.Repeat(`\""`, 65535), api.ErrDumpValue, 10)
	wantUnread(t, `PatientID "`+a[:65530]+`"\"bcde"`, api.ErrDumpValue, 10)
	wantUnread(t, `(0009,1001) x`+strings.Repeat("20", 65536), api.ErrDumpValue, 12)
	wantUnread(t, `Rows 1`+strings.Repeat(`\1`, 32767), api.ErrDumpValue, 5)
	wantUnread(t, `(0009,1001) AT (0010,0010)`+strings.Repeat(`\(0010,0010)`, 16383), api.ErrDumpValue, 15)
	wantUnread(t, `(0009,1001) FD 0`+strings.Repeat(`\0`, 8191), api.ErrDumpValue, 15)
	// A value that is too long is read to its end first.
	wantUnread(t, `Rows 1`+strings.Repeat(`\1`, 40000)+`\65536`, api.ErrDumpValue, 5+1+2*40000+1)
	wantUnread(t, `Rows 1`+strings.Repeat(`\1`, 40000)+`\"2"`, api.ErrDumpForm, 5+1+2*40000+1)
	wantUnread(t, `PatientID "`+a+`"\"b"\5`, api.ErrDumpForm, 10+65536+5)
	wantUnread(t, `PatientID "`+a+`a" 5`, api.ErrDumpValue, 10)
}
