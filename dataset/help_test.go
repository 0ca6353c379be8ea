package dataset_test

import (
	"encoding/hex"
	"fmt"
	"slices"
	"strings"
	"testing"

	"modality/api"
	"modality/dataset"
)

// is tells whether an error is this layer's fault with this number at this place; OK: no error.
func is(err error, code api.Errno, at int) bool {
	if code == api.OK {
		return err == nil
	}
	f, ok := err.(*api.Fault)
	return ok && f != nil && f.Layer == "dataset" && f.At == at && f.Err == error(code)
}

// isUnformed tells whether an error is this layer's fault with layer 3's behind it, both at this place.
func isUnformed(err error, at int) bool {
	f, ok := err.(*api.Fault)
	if !ok || f == nil || f.Layer != "dataset" || f.At != at {
		return false
	}
	behind, ok := f.Err.(*api.Fault)
	return ok && behind != nil && behind.Layer == "dict" && behind.At == at && behind.Err == error(api.ErrSet)
}

// raw gives bytes that are written in sixteens, blanks and points between.
func raw(t *testing.T, text string) []byte {
	t.Helper()
	b, err := hex.DecodeString(strings.NewReplacer(" ", "", "·", "").Replace(text))
	if err != nil {
		t.Fatal(err)
	}
	return b
}

func element(tag api.Tag, v api.VR, value string) api.Node {
	return api.Node{Tag: tag, VR: v, Value: value}
}

func sequence(tag api.Tag, items int) api.Node {
	return api.Node{Tag: tag, VR: api.VRSQ, N: items}
}

func item(elements int) api.Node {
	return api.Node{Tag: api.TagItem, VR: api.VRItem, N: elements}
}

func list(nodes ...api.Node) []api.Node { return nodes }

// The tags of the tests: the dictionary knows the first three, and no other.
const (
	codeTag    api.Tag = 0x00080060 // CS
	stepsTag   api.Tag = 0x00400100 // SQ
	idTag      api.Tag = 0x00401001 // SH
	creatorTag api.Tag = 0x00190010
	privateTag api.Tag = 0x00191001
)

var ct = element(codeTag, api.VRCS, "CT")

var bothSyntaxes = []api.Syntax{api.Implicit, api.Explicit}

// shown tells the beginning of a list.
func shown(nodes []api.Node) string {
	text := fmt.Sprint(len(nodes), " nodes")
	for i := 0; i < len(nodes) && i < 20; i++ {
		text += fmt.Sprintf(" %08X:%d:%d:%.40q", nodes[i].Tag, nodes[i].VR, nodes[i].N, nodes[i].Value)
	}
	return text
}

// wantBytes fails if a data set is not laid down as it must be, or if its size is told otherwise.
func wantBytes(t *testing.T, nodes []api.Node, s api.Syntax, want []byte) {
	t.Helper()
	if b, err := dataset.Encode(nodes, s); err != nil || !slices.Equal(b, want) {
		t.Fatalf("P6.1: %s in syntax %d: % .200X, %v; want % .200X", shown(nodes), s, b, err, want)
	}
	if size, err := dataset.Size(nodes, s); err != nil || size != len(want) {
		t.Fatalf("P6.2: %s in syntax %d: %d, %v; want %d", shown(nodes), s, size, err, len(want))
	}
}

// wantUnwritten fails if a data set is not refused as it must be.
func wantUnwritten(t *testing.T, nodes []api.Node, s api.Syntax, right func(error) bool) {
	t.Helper()
	if b, err := dataset.Encode(nodes, s); b != nil || !right(err) {
		t.Errorf("P6.1: %s in syntax %d: %d bytes, %v", shown(nodes), s, len(b), err)
	}
	if size, err := dataset.Size(nodes, s); size != 0 || !right(err) {
		t.Errorf("P6.2: %s in syntax %d: %d, %v", shown(nodes), s, size, err)
	}
}

// wantNodes fails if bytes are not read as they must be.
func wantNodes(t *testing.T, b []byte, s api.Syntax, want []api.Node) {
	t.Helper()
	if got, err := dataset.Decode(b, s); err != nil || !slices.Equal(got, want) || (got == nil) != (len(want) == 0) {
		t.Fatalf("P6.3: % .200X in syntax %d: %s, %v; want %s", b, s, shown(got), err, shown(want))
	}
}

// wantUnread fails if bytes are not refused as they must be.
func wantUnread(t *testing.T, b []byte, s api.Syntax, code api.Errno, at int) {
	t.Helper()
	if got, err := dataset.Decode(b, s); got != nil || !is(err, code, at) {
		t.Fatalf("P6.3: % .200X in syntax %d: %s, %v; want %d at %d", b, s, shown(got), err, code, at)
	}
}
