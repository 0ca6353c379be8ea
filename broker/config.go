package broker

import (
	"strings"

	"modality/api"
	"modality/dict"
)

// The fields of a configuration, by their numbers.
const (
	settingTitle = iota + 1
	settingCallers
	settingLines
	settingArtim
	settingCompact
)

// wrongSetting tells the number of the first field of a configuration that may not be; 0, if all may be (P16.1).
func wrongSetting(c api.Config) int {
	switch {
	case !isTitle(c.Title):
		return settingTitle
	case len(c.Callers) > api.MaxCallers, !areTitles(c.Callers):
		return settingCallers
	case !within(c.Lines, 1, api.MaxLines):
		return settingLines
	case !within(c.Artim, 1, api.MaxArtim):
		return settingArtim
	case !within(c.Compact, 1, api.MaxCompact):
		return settingCompact
	}
	return 0
}

// isTitle tells whether a text is an AE title, as it stands.
func isTitle(text string) bool {
	return text != "" && text == strings.Trim(text, " ") && dict.Check(api.VRAE, text) == nil
}

func areTitles(texts []string) bool {
	for _, t := range texts {
		if !isTitle(t) {
			return false
		}
	}
	return true
}

func within(n, least, most int) bool { return n >= least && n <= most }
