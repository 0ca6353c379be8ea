package dump_test

import (
	"fmt"
	"slices"
	"testing"

	"modality/api"
	"modality/dump"
)

// is tells whether an error is this layer's fault with this number at this place; OK: no error.
func is(err error, code api.Errno, at int) bool {
	if code == api.OK {
		return err == nil
	}
	f, ok := err.(*api.Fault)
	return ok && f != nil && f.Layer == "dump" && f.At == at && f.Err == error(code)
}

// isUnformed tells whether an error is this layer's fault with layer 3's behind it, both at this place.
func isUnformed(err error, at int) bool {
	f, ok := err.(*api.Fault)
	if !ok || f == nil || f.Layer != "dump" || f.At != at {
		return false
	}
	behind, ok := f.Err.(*api.Fault)
	return ok && behind != nil && behind.Layer == "dict" && behind.At == at && behind.Err == error(api.ErrSet)
}

func element(tag api.Tag, v api.VR, value string) api.Node {
	return api.Node{Tag: tag, VR: v, Value: value}
}

func sequence(tag api.Tag, items int) api.Node {
	return api.Node{Tag: tag, VR: api.VRSQ, N: items}
}

func item(elements int) api.Node {
	return api.Node{Tag: api.TagItem, VR: api.VRItem, N: elements}
}

func list(nodes ...api.Node) []api.Node { return nodes }

// The tags of the tests: the dictionary knows the first four, and no other.
const (
	codeTag    api.Tag = 0x00080060 // CS
	idTag      api.Tag = 0x00100020 // LO
	rowsTag    api.Tag = 0x00280010 // US
	stepsTag   api.Tag = 0x00400100 // SQ
	creatorTag api.Tag = 0x00090010
	privateTag api.Tag = 0x00091001
)

// shown tells the beginning of a list.
func shown(nodes []api.Node) string {
	text := fmt.Sprint(len(nodes), " nodes")
	for i := 0; i < len(nodes) && i < 20; i++ {
		text += fmt.Sprintf(" %08X:%d:%d:%.40q", nodes[i].Tag, nodes[i].VR, nodes[i].N, nodes[i].Value)
	}
	return text
}

// wantText fails if a data set is not written as it must be, or if that is not read as the data set.
func wantText(t *testing.T, nodes []api.Node, want string) {
	t.Helper()
	if text, err := dump.Print(nodes); err != nil || text != want {
		t.Fatalf("P7.1: %s: %.400q, %v; want %.400q", shown(nodes), text, err, want)
	}
	if back, err := dump.Parse(want); err != nil || !slices.Equal(back, nodes) {
		t.Fatalf("P7.3: %.400q: %s, %v; want %s", want, shown(back), err, shown(nodes))
	}
}

// wantUnwritten fails if a data set is not refused as it must be.
func wantUnwritten(t *testing.T, nodes []api.Node, right func(error) bool) {
	t.Helper()
	if text, err := dump.Print(nodes); text != "" || !right(err) {
		t.Errorf("P7.1: %s: %.200q, %v", shown(nodes), text, err)
	}
}

func isLong(err error) bool { return is(err, api.ErrDumpLong, 0) }

// wantNodes fails if a text is not read as it must be.
func wantNodes(t *testing.T, text string, want []api.Node) {
	t.Helper()
	if got, err := dump.Parse(text); err != nil || !slices.Equal(got, want) || (got == nil) != (len(want) == 0) {
		t.Fatalf("P7.2: %.400q: %s, %v; want %s", text, shown(got), err, shown(want))
	}
}

// wantUnread fails if a text is not refused as it must be.
func wantUnread(t *testing.T, text string, code api.Errno, at int) {
	t.Helper()
	if got, err := dump.Parse(text); got != nil || !is(err, code, at) {
		t.Fatalf("P7.2: %.400q: %s, %v; want %d at %d", text, shown(got), err, code, at)
	}
}
