package dict_test

import (
	"errors"
	"testing"

	"modality/api"
)

// is tells whether an error is this layer's fault with this number at this place; OK: no error.
func is(err error, code api.Errno, at int) bool {
	if code == api.OK {
		return err == nil
	}
	f, ok := err.(*api.Fault)
	return ok && f != nil && f.Layer == "dict" && f.At == at && f.Err == error(code)
}

// isWithin tells whether an error is this layer's fault at this place with another one of it behind.
func isWithin(err error, place int, code api.Errno, at int) bool {
	f, ok := err.(*api.Fault)
	return ok && f != nil && f.Layer == "dict" && f.At == place && is(f.Err, code, at) && errors.Is(err, code)
}

func element(tag api.Tag, v api.VR, value string) api.Node {
	return api.Node{Tag: tag, VR: v, Value: value}
}

func sequence(tag api.Tag, items int) api.Node {
	return api.Node{Tag: tag, VR: api.VRSQ, N: items}
}

func item(elements int) api.Node {
	return api.Node{Tag: api.TagItem, VR: api.VRItem, N: elements}
}

// wantFormed fails if what Formed answered is not its refusal at this place; -1: none.
func wantFormed(t *testing.T, what string, err error, at int) {
	t.Helper()
	if at < 0 && err != nil || at >= 0 && !is(err, api.ErrSet, at) {
		t.Errorf("P3.10: %s: %v, want %d", what, err, at)
	}
}
