package engine_test

import (
	"encoding/hex"
	"fmt"
	"strings"

	"modality/api"
	"modality/dict"
	"modality/dump"
)

// A second writer of scripts. It writes whatever it is given: what no text says comes out as a text that is read otherwise, or not at all.

func hexWord(b []byte) string {
	if len(b) == 0 {
		return "-"
	}
	return hex.EncodeToString(b)
}

func wordsOf[K comparable](words map[string]K, list []K) string {
	var out []string
	for _, v := range list {
		word := "?"
		for w, x := range words {
			if x == v {
				word = w
			}
		}
		out = append(out, word)
	}
	return strings.Join(out, ",")
}

func keepWords(k api.PowerCut) string {
	out := ""
	for _, f := range k.Files {
		out += fmt.Sprintf(" %d:%d", f.Id, f.Units)
	}
	if k.Dir != 0 {
		out += fmt.Sprintf(" dir:%d", k.Dir)
	}
	return out
}

// setLines is a data set's lines, and the one that closes it.
func setLines(nodes []api.Node) string {
	text, err := dump.Print(nodes)
	if err != nil {
		return "  ?\n}\n"
	}
	return setIn(text) + "}\n"
}

// setIn puts two spaces ahead of each line.
func setIn(text string) string {
	out := ""
	for _, line := range strings.Split(strings.TrimSuffix(text, "\n"), "\n") {
		if text != "" {
			out += "  " + line + "\n"
		}
	}
	return out
}

func writeHead(s api.Script) string {
	out := fmt.Sprintf("server %s %d %d %d %d %d\n", quoted(s.Config.Title), s.Config.Lines, s.Config.Artim, s.Config.Compact, s.Disk.Blocks, s.Disk.Names)
	for _, c := range s.Config.Callers {
		out += "caller " + quoted(c) + "\n"
	}
	for _, x := range s.Scanners {
		out += fmt.Sprintf("scanner %d %s %s %d %d %s %s\n", x.Line, quoted(x.Config.Title), quoted(x.Config.Called), x.Config.Most, x.Config.Artim, wordsOf(numOfSyntax, x.Config.Syntaxes), wordsOf(uidOfClass, x.Config.Classes))
	}
	return out
}

func writeHap(h api.Hap) string {
	switch h.Kind {
	case api.HapOrder:
		return "order " + quoted(h.Text) + "\n"
	case api.HapDo:
		return writeDo(h.At, h.Do)
	case api.HapAct:
		return writeAct(h.Act)
	}
	return "?\n"
}

func writeDo(at int, d api.ScuDo) string {
	switch d.Kind {
	case api.DoConnect:
		return fmt.Sprintf("connect %d\n", at)
	case api.DoRelease:
		return fmt.Sprintf("release %d\n", at)
	case api.DoAbort:
		return fmt.Sprintf("abort %d\n", at)
	case api.DoEcho:
		return fmt.Sprintf("echo %d %d\n", at, d.Id)
	case api.DoCancel:
		return fmt.Sprintf("cancel %d %d\n", at, d.Id)
	case api.DoFind:
		return fmt.Sprintf("find %d %d %s {\n", at, d.Id, quoted(d.Charset)) + setLines(d.Nodes)
	case api.DoCreate:
		return fmt.Sprintf("create %d %d %s %s {\n", at, d.Id, quoted(d.UID), quoted(d.Charset)) + setLines(d.Nodes)
	case api.DoSet:
		return fmt.Sprintf("set %d %d %s %s {\n", at, d.Id, quoted(d.UID), quoted(d.Charset)) + setLines(d.Nodes)
	case api.DoGet:
		out := fmt.Sprintf("get %d %d %s", at, d.Id, quoted(d.UID))
		for _, t := range d.Attrs {
			out += " " + dict.PrintTag(t)
		}
		return out + "\n"
	}
	return "?\n"
}

func writeAct(a api.Act) string {
	switch a.Kind {
	case api.ALink:
		return fmt.Sprintf("link %d\n", a.Line)
	case api.AData:
		return fmt.Sprintf("data %d %s\n", a.Line, hexWord(a.Data))
	case api.ADrop:
		return fmt.Sprintf("drop %d\n", a.Line)
	case api.AFeed:
		return "feed " + hexWord(a.Data) + "\n"
	case api.AFeedLink:
		return "feedlink\n"
	case api.ATurn:
		return fmt.Sprintf("turn %d\n", a.Count)
	case api.ATick:
		return fmt.Sprintf("tick %d\n", a.Count)
	case api.ARoom:
		return fmt.Sprintf("room %d\n", a.Count)
	case api.AFuse:
		return fmt.Sprintf("fuse %d", a.Count) + keepWords(a.Keeps) + "\n"
	case api.APower:
		return "power" + keepWords(a.Keeps) + "\n"
	case api.AStart:
		return "start\n"
	}
	return "?\n"
}

func writeAgain(s api.Script) string {
	var b strings.Builder
	b.WriteString(writeHead(s))
	for _, h := range s.Haps {
		b.WriteString(writeHap(h))
	}
	return b.String()
}

// bare is a script without the numbers of its lines, and without lists that have no elements.
func bare(s api.Script) api.Script {
	s.Config.Callers = none(s.Config.Callers)
	var scanners []api.ScriptScanner
	for _, x := range s.Scanners {
		x.Config.Classes, x.Config.Syntaxes = none(x.Config.Classes), none(x.Config.Syntaxes)
		scanners = append(scanners, x)
	}
	s.Scanners = scanners
	var haps []api.Hap
	for _, h := range s.Haps {
		h.Line = 0
		h.Do.Nodes, h.Do.Attrs = none(h.Do.Nodes), none(h.Do.Attrs)
		h.Act.Data, h.Act.Keeps.Files = none(h.Act.Data), none(h.Act.Keeps.Files)
		haps = append(haps, h)
	}
	s.Haps = haps
	return s
}

// none makes nil of a list that has no elements.
func none[T any](list []T) []T {
	if len(list) == 0 {
		return nil
	}
	return list
}

// isSaid tells whether a script is what its text is read as.
func isSaid(s api.Script) bool {
	got, err := readAgain(writeAgain(s))
	return err == nil && same(bare(got), bare(s))
}

// printAgain is what P18.2 asks of a script whose text is not too long.
func printAgain(s api.Script) (string, error) {
	bare := s
	bare.Haps = nil
	if !isSaid(bare) {
		return "", fault(0, api.ErrEngineScript)
	}
	for i, h := range s.Haps {
		bare.Haps = []api.Hap{h}
		if i == 10000 || !isSaid(bare) {
			return "", fault(1+i, api.ErrEngineScript)
		}
	}
	return writeAgain(s), nil
}
