package engine

import "modality/api"

// seats are the server's lines: true where a scanner stands.
type seats [api.MaxLines]bool

// isFree tells whether a scanner may be put on a line.
func (s *seats) isFree(line int) bool { return line >= 0 && line < len(s) && !s[line] }

// isTaken tells whether a scanner stands on a line.
func (s *seats) isTaken(line int) bool { return line >= 0 && line < len(s) && s[line] }

// fit tells whether a happening has a scanner where it needs one, and none where the script itself is the other side.
func (s *seats) fit(h api.Hap) bool {
	if h.Kind == api.HapDo {
		return s.isTaken(h.At)
	}
	switch h.Act.Kind {
	case api.ALink, api.AData, api.ADrop:
		return !s.isTaken(h.Act.Line)
	}
	return true
}
