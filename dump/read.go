package dump

import (
	"modality/api"
	"modality/dict"
)

// stop is how the reading ends ahead of the text: at which place, and why.
type stop struct {
	at     int
	reason api.Errno
}

// reader makes nodes of a text that is tokens all through.
type reader struct {
	text  string
	ahead token // the first one that is not taken yet
	nodes []api.Node
}

func newReader(text string) *reader { return &reader{text: text, ahead: cut(text, 0)} }

// read takes the whole text.
func (r *reader) read() []api.Node {
	r.takeElements(0)
	if r.ahead.kind != textEnd {
		r.giveUp(r.ahead, api.ErrDumpForm)
	}
	return r.nodes
}

// takeElements takes what stands beside one another in an item of this depth (0: on the top), and tells how many that is.
func (r *reader) takeElements(depth int) int {
	count := 0
	var last api.Tag
	for r.ahead.kind == tagToken || r.ahead.kind == wordToken {
		last = r.takeElement(last, depth)
		count++
	}
	return count
}

// takeElement takes an element that stands behind the one with the last tag, and tells its own.
func (r *reader) takeElement(last api.Tag, depth int) api.Tag {
	first := r.take()
	t := r.tagOf(first)
	if t <= last {
		r.giveUp(first, api.ErrDumpOrder)
	}
	n := r.add(first, api.Node{Tag: t})
	v := r.takeVR(t)
	r.nodes[n].VR = v
	if v == api.VRSQ {
		count := r.takeItems(depth + 1)
		r.nodes[n].N = count
	} else {
		r.nodes[n].Value = r.takeValue(v)
	}
	return t
}

// tagOf tells the tag that a token names in an element's place.
func (r *reader) tagOf(first token) api.Tag {
	t, known := dict.ByKeyword(first.text)
	if first.kind == tagToken {
		told, err := dict.ParseTag(first.text)
		t, known = told, err == nil
	}
	if !known || !mayStand(t) {
		r.giveUp(first, api.ErrDumpTag)
	}
	return t
}

// mayStand tells whether a data set may have an element with this tag.
func mayStand(t api.Tag) bool {
	switch t >> 16 {
	case 0x0000, 0x0002, 0xFFFE, 0xFFFF:
		return false
	}
	return t&0xFFFF != 0
}

// takeVR takes the VR's word, if there is one.
func (r *reader) takeVR(t api.Tag) api.VR {
	if r.ahead.kind != wordToken {
		return dict.Default(t)
	}
	word := r.take()
	v, err := dict.VROf(word.text)
	if err != nil {
		r.giveUp(word, api.ErrDumpVR)
	}
	if e, known := dict.Find(t); known && v != e.VR {
		r.giveUp(word, api.ErrDumpVR)
	}
	return v
}

// takeItems takes a sequence's items of this depth, with the braces around them, and tells how many there are.
func (r *reader) takeItems(depth int) int {
	count := 0
	r.takeMark("{")
	for r.ahead.kind == wordToken && r.ahead.text == itemWord {
		r.takeItem(depth)
		count++
	}
	r.takeMark("}")
	return count
}

func (r *reader) takeItem(depth int) {
	first := r.take()
	if depth > api.MaxDepth {
		r.giveUp(first, api.ErrDumpDeep)
	}
	n := r.add(first, api.Node{Tag: api.TagItem, VR: api.VRItem})
	r.takeMark("{")
	count := r.takeElements(depth)
	r.nodes[n].N = count
	r.takeMark("}")
}

// takeValue takes a value whose single tokens may be, and looks at the whole when it is read.
func (r *reader) takeValue(v api.VR) string {
	first := r.ahead
	value := r.takeTokens(v)
	if !mayBe(v, value) {
		r.giveUp(first, api.ErrDumpValue)
	}
	return value
}

// mayBe tells whether a VR may have a Value, as far as the form of data sets asks.
func mayBe(v api.VR, value string) bool {
	if len(value) > api.MaxValue {
		return false
	}
	if dict.Text(v) {
		return dict.Trim(v, value) == value
	}
	return len(value)%2 == 0
}

// takeTokens takes the tokens of a value, and tells the bytes that they stand for.
func (r *reader) takeTokens(v api.VR) string {
	if r.ahead.kind == hexToken {
		return r.takeOne(bare())
	}
	f := forms()[v]
	pieces := []string{r.takeOne(f)}
	for f.several && r.ahead.isMark(between) {
		r.take()
		pieces = append(pieces, r.takeOne(f))
	}
	value, _ := dict.Join(v, pieces) // which refuses no pieces that were read by the VR's form
	return value
}

// takeOne takes one token, and tells the bytes that it stands for.
func (r *reader) takeOne(f form) string {
	if r.ahead.kind != f.token {
		r.giveUp(r.ahead, api.ErrDumpForm)
	}
	t := r.take()
	value, ok := f.read(t.text, f.bits)
	if !ok {
		r.giveUp(t, api.ErrDumpValue)
	}
	return value
}

// takeMark takes the one mark that can stand here.
func (r *reader) takeMark(mark string) {
	if !r.ahead.isMark(mark) {
		r.giveUp(r.ahead, api.ErrDumpForm)
	}
	r.take()
}

// take goes past a token.
func (r *reader) take() token {
	t := r.ahead
	r.ahead = cut(r.text, t.end())
	return t
}

// add puts a node behind the others, and tells its place.
func (r *reader) add(first token, n api.Node) int {
	if len(r.nodes) == api.MaxNodes {
		r.giveUp(first, api.ErrDumpDeep)
	}
	r.nodes = append(r.nodes, n)
	return len(r.nodes) - 1
}

// giveUp ends the reading at a token, however deep in it that is; Parse catches it.
func (r *reader) giveUp(at token, reason api.Errno) { panic(stop{at.at, reason}) }
