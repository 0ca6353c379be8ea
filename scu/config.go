package scu

import (
	"strings"

	"modality/api"
	"modality/dict"
)

// The fields of a configuration, by their numbers.
const (
	settingTitle = iota
	settingCalled
	settingClasses
	settingSyntaxes
	settingMost
	settingArtim
)

// wrongSetting tells the number of the first field of a configuration that may not be, if there is one (P17.1).
func wrongSetting(c api.ScuConfig) (at int, found bool) {
	switch {
	case !isTitle(c.Title):
		return settingTitle, true
	case !isTitle(c.Called):
		return settingCalled, true
	case !areClasses(c.Classes):
		return settingClasses, true
	case !areSyntaxes(c.Syntaxes):
		return settingSyntaxes, true
	case c.Most != 0 && c.Most < api.MinPdu:
		return settingMost, true
	case c.Artim < 1 || c.Artim > api.MaxArtim:
		return settingArtim, true
	}
	return 0, false
}

// isTitle tells whether layer 8 writes a text as a title, just as it stands.
func isTitle(text string) bool {
	return text != "" && text == strings.Trim(text, " ") && dict.Check(api.VRAE, text) == nil
}

func areClasses(uids []string) bool {
	if len(uids) == 0 || len(uids) > api.MaxContexts {
		return false
	}
	for _, u := range uids {
		if u == "" || dict.Check(api.VRUI, u) != nil {
			return false
		}
	}
	return true
}

func areSyntaxes(list []api.Syntax) bool {
	for _, s := range list {
		if s != api.Implicit && s != api.Explicit {
			return false
		}
	}
	return len(list) == 1 || len(list) == 2 && list[0] != list[1]
}

// uidOf is the UID by which a syntax is asked for.
func uidOf(s api.Syntax) string {
	if s == api.Explicit {
		return api.UIDExplicit
	}
	return api.UIDImplicit
}
