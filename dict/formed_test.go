package dict_test

import (
	"fmt"
	"math"
	"math/rand"
	"slices"
	"strings"
	"testing"

	"modality/api"
	"modality/dict"
)

// The tags of the tests: the dictionary knows the first four, and no private one.
const (
	codeTag    api.Tag = 0x00080060 // CS
	stepsTag   api.Tag = 0x00400100 // SQ
	idTag      api.Tag = 0x00401001 // SH
	rowsTag    api.Tag = 0x00280010 // US
	privateTag api.Tag = 0x00191001
)

// TestFormedAlone looks at single nodes: each of them is right but in what is said.
func TestFormedAlone(t *testing.T) {
	long := strings.Repeat
	for what, c := range map[string]struct {
		n     api.Node
		right bool
	}{
		"CS":                             {element(codeTag, api.VRCS, "CT"), true},
		"CS without a value":             {element(codeTag, api.VRCS, ""), true},
		"CS with small letters":          {element(codeTag, api.VRCS, "ct\x01"), true},
		"another VR than the tag's":      {element(codeTag, api.VRLO, "CT"), false},
		"UN for a known tag":             {element(codeTag, api.VRUN, "CT"), false},
		"SQ for a known tag":             {sequence(codeTag, 0), false},
		"a known sequence as UN":         {element(stepsTag, api.VRUN, ""), false},
		"an unknown sequence":            {sequence(privateTag, 0), true},
		"an unknown UN":                  {element(privateTag, api.VRUN, "ab"), true},
		"an unknown PN":                  {element(privateTag, api.VRPN, "abc"), true},
		"no VR":                          {element(privateTag, api.VRNone, ""), false},
		"an item's VR":                   {element(privateTag, api.VRItem, ""), false},
		"VR 30":                          {element(privateTag, 30, ""), false},
		"VR below 0":                     {element(privateTag, -1, ""), false},
		"a great VR":                     {element(privateTag, 1<<62, ""), false},
		"an overlay":                     {element(0x601E0010, api.VRUS, "ab"), true},
		"an overlay with another VR":     {element(0x601E0010, api.VRUN, "ab"), false},
		"no overlay":                     {element(0x60200010, api.VRUN, "ab"), true},
		"group 0000":                     {element(0x00000100, api.VRUS, "ab"), false},
		"group 0000, unknown":            {element(0x00001234, api.VRUN, "ab"), false},
		"group 0001":                     {element(0x00011234, api.VRUN, "ab"), true},
		"group 0002":                     {element(0x00020010, api.VRUI, "1"), false},
		"group 0002, unknown":            {element(0x00021234, api.VRUN, "ab"), false},
		"group 0003":                     {element(0x00031234, api.VRUN, "ab"), true},
		"group FFFD":                     {element(0xFFFD1234, api.VRUN, "ab"), true},
		"group FFFE":                     {element(0xFFFE1234, api.VRUN, "ab"), false},
		"group FFFF":                     {element(0xFFFF1234, api.VRUN, "ab"), false},
		"the last tag":                   {element(0xFFFFFFFF, api.VRUN, "ab"), false},
		"the last that may be":           {element(0xFFFDFFFF, api.VRUN, "ab"), true},
		"FFFC,FFFC":                      {element(0xFFFCFFFC, api.VROB, "ab"), true},
		"tag 0":                          {element(0, api.VRUL, "abcd"), false},
		"element 0000":                   {element(0x00080000, api.VRUL, "abcd"), false},
		"element 0000 of an odd group":   {element(0x00190000, api.VRUL, "abcd"), false},
		"element 0001":                   {element(0x00190001, api.VRUL, "abcd"), true},
		"an item":                        {item(0), false},
		"an item's end":                  {element(0xFFFEE00D, api.VRNone, ""), false},
		"a sequence's end":               {element(0xFFFEE0DD, api.VRUN, ""), false},
		"a sequence with a value":        {api.Node{Tag: stepsTag, VR: api.VRSQ, Value: "x"}, false},
		"a sequence with padding":        {api.Node{Tag: stepsTag, VR: api.VRSQ, Value: " "}, false},
		"a sequence with N below 0":      {sequence(stepsTag, -1), false},
		"a sequence with the least N":    {sequence(stepsTag, math.MinInt), false},
		"a sequence without items":       {sequence(stepsTag, 0), true},
		"an element with N 1":            {api.Node{Tag: codeTag, VR: api.VRCS, N: 1, Value: "CT"}, false},
		"an element with N below 0":      {api.Node{Tag: codeTag, VR: api.VRCS, N: -1, Value: "CT"}, false},
		"an element with the most N":     {api.Node{Tag: codeTag, VR: api.VRCS, N: math.MaxInt}, false},
		"a text with a space behind":     {element(codeTag, api.VRCS, "CT "), false},
		"a text with a 0 behind":         {element(codeTag, api.VRCS, "CT\x00"), false},
		"a text of a space":              {element(codeTag, api.VRCS, " "), false},
		"a text with a space ahead":      {element(codeTag, api.VRCS, " CT"), true},
		"a text with a space between":    {element(codeTag, api.VRCS, "CT \\MR"), true},
		"a UID with a 0 behind":          {element(0x00080016, api.VRUI, "1.2\x00"), false},
		"a UID with a space behind":      {element(0x00080016, api.VRUI, "1.2 "), false},
		"a UID":                          {element(0x00080016, api.VRUI, "1.2"), true},
		"bytes with a space behind":      {element(privateTag, api.VRUN, "a "), true},
		"bytes with a 0 behind":          {element(privateTag, api.VROB, "a\x00"), true},
		"an odd number of bytes":         {element(privateTag, api.VRUN, "abc"), false},
		"an odd number of bytes of US":   {element(rowsTag, api.VRUS, "a"), false},
		"US of two values":               {element(rowsTag, api.VRUS, "abcd"), true},
		"UL of half a value":             {element(privateTag, api.VRUL, "ab"), true},
		"FD of six bytes":                {element(privateTag, api.VRFD, "abcdef"), true},
		"an odd text":                    {element(codeTag, api.VRCS, "ABC"), true},
		"the longest text":               {element(privateTag, api.VRUT, long("x", 65534)), true},
		"a text that is too long":        {element(privateTag, api.VRUT, long("x", 65535)), false},
		"a long text of a short VR":      {element(codeTag, api.VRCS, long("x", 65534)), true},
		"the most bytes":                 {element(privateTag, api.VRUN, long("x", 65534)), true},
		"more bytes, even":               {element(privateTag, api.VRUN, long("x", 65536)), false},
		"a stray byte":                   {element(privateTag, api.VRLO, "\xff"), true},
		"a text that ends in a no-break": {element(privateTag, api.VRLO, "a\u00a0"), true},
	} {
		at := 0
		if c.right {
			at = -1
		}
		wantFormed(t, what, dict.Formed([]api.Node{c.n}), at)
		// The same node behind a right one on its level, and as an item's only element.
		if c.n.Tag > 0x00010001 {
			wantFormed(t, what+", second", dict.Formed([]api.Node{element(0x00010001, api.VRUN, ""), c.n}), min(at, 0)*2+1)
		}
		if !c.right {
			wantFormed(t, what+", inside", dict.Formed([]api.Node{sequence(stepsTag, 1), item(1), c.n}), 2)
		} else {
			wantFormed(t, what+", inside", dict.Formed([]api.Node{sequence(stepsTag, 1), item(1), c.n}), -1)
		}
	}
}

func TestFormedItems(t *testing.T) {
	ct, p := element(codeTag, api.VRCS, "CT"), element(idTag, api.VRSH, "P")
	for what, c := range map[string]struct {
		nodes []api.Node
		at    int
	}{
		"nothing":                      {nil, -1},
		"an empty list":                {[]api.Node{}, -1},
		"an item with N below 0":       {[]api.Node{sequence(stepsTag, 1), item(-1)}, 1},
		"an item with a value":         {[]api.Node{sequence(stepsTag, 1), {Tag: api.TagItem, VR: api.VRItem, Value: "x"}}, 1},
		"an item with another VR":      {[]api.Node{sequence(stepsTag, 1), {Tag: api.TagItem, VR: api.VRSQ}}, 1},
		"an item without a VR":         {[]api.Node{sequence(stepsTag, 1), {Tag: api.TagItem}}, 1},
		"an item with another tag":     {[]api.Node{sequence(stepsTag, 1), {Tag: 0xFFFEE00D, VR: api.VRItem}}, 1},
		"an element for an item":       {[]api.Node{sequence(stepsTag, 1), ct}, 1},
		"an item too few":              {[]api.Node{sequence(stepsTag, 2), item(0)}, 2},
		"no item":                      {[]api.Node{sequence(stepsTag, 1)}, 1},
		"an element too few":           {[]api.Node{sequence(stepsTag, 1), item(2), ct}, 3},
		"an element too few, an item":  {[]api.Node{sequence(stepsTag, 2), item(2), ct, item(0)}, 3},
		"an item too many":             {[]api.Node{sequence(stepsTag, 1), item(0), item(0)}, 2},
		"an item behind an element":    {[]api.Node{ct, item(0)}, 1},
		"huge numbers":                 {[]api.Node{sequence(stepsTag, math.MaxInt), item(math.MaxInt), ct}, 3},
		"behind the items":             {[]api.Node{sequence(stepsTag, 2), item(1), ct, item(0), p}, -1},
		"the same tag behind":          {[]api.Node{sequence(stepsTag, 1), item(0), sequence(stepsTag, 0)}, 2},
		"a lower tag behind":           {[]api.Node{sequence(stepsTag, 1), item(1), ct, element(rowsTag, api.VRUS, "ab")}, 3},
		"a lower tag inside":           {[]api.Node{sequence(stepsTag, 1), item(1), ct}, -1},
		"a higher tag inside":          {[]api.Node{sequence(stepsTag, 1), item(1), p, p}, -1},
		"twice inside":                 {[]api.Node{sequence(stepsTag, 1), item(2), ct, ct}, 3},
		"falling inside":               {[]api.Node{sequence(stepsTag, 1), item(2), p, ct}, 3},
		"rising inside":                {[]api.Node{sequence(stepsTag, 1), item(2), ct, p}, -1},
		"the same in two items":        {[]api.Node{sequence(stepsTag, 2), item(1), ct, item(1), ct}, -1},
		"an empty sequence inside":     {[]api.Node{sequence(stepsTag, 1), item(1), sequence(stepsTag, 0), p}, -1},
		"the first of two wrong":       {[]api.Node{ct, ct, item(0)}, 1},
		"wrong, and ends too early":    {[]api.Node{sequence(stepsTag, 5), item(0), item(-1)}, 2},
		"falling on the top":           {[]api.Node{ct, element(0x00080050, api.VRSH, "1")}, 1},
		"rising from the lowest":       {[]api.Node{element(0x00010001, api.VRUN, ""), element(0xFFFDFFFF, api.VRUN, "")}, -1},
		"falling as a signed number":   {[]api.Node{element(0x7FFFFFFF, api.VRUN, ""), element(0x80000001, api.VRUN, "")}, -1},
		"more items than there can be": {[]api.Node{sequence(stepsTag, 1<<40), item(0)}, 2},
	} {
		wantFormed(t, what, dict.Formed(c.nodes), c.at)
	}
}

// TestFormedDepth nests sequences; the fifth item is too deep, also where the sequence around it is empty of others.
func TestFormedDepth(t *testing.T) {
	var nodes []api.Node
	for depth := 1; depth <= 6; depth++ {
		nodes = append(nodes, sequence(stepsTag, 1))
		bare := slices.Clone(nodes)
		bare[len(bare)-1].N = 0
		closed := append(slices.Clone(nodes), item(0))
		nodes = append(nodes, item(1))
		open := append(slices.Clone(nodes), element(idTag, api.VRSH, "x"))
		if depth <= 4 {
			wantFormed(t, "closed", dict.Formed(closed), -1)
			wantFormed(t, "open", dict.Formed(open), -1)
		} else {
			wantFormed(t, "too deep", dict.Formed(closed), 9)
			wantFormed(t, "too deep", dict.Formed(open), 9)
		}
		switch {
		case depth <= 5:
			wantFormed(t, "an empty sequence", dict.Formed(bare), -1)
		default:
			wantFormed(t, "an empty sequence", dict.Formed(bare), 9)
		}
	}
	// A deep item goes out of all levels around, and the next one counts from the top again.
	deep := []api.Node{sequence(stepsTag, 2), item(1), sequence(stepsTag, 1), item(1), sequence(stepsTag, 1), item(1), sequence(stepsTag, 1), item(0), item(1), sequence(stepsTag, 1), item(0), element(idTag, api.VRSH, "P")}
	wantFormed(t, "in and out", dict.Formed(deep), -1)
}

func TestFormedMany(t *testing.T) {
	var flat, items []api.Node
	items = append(items, sequence(stepsTag, 4095))
	for i := range 5000 {
		flat = append(flat, element(0x00190001+api.Tag(i), api.VRUN, ""))
		items = append(items, item(0))
	}
	wantFormed(t, "4096 elements", dict.Formed(flat[:4096]), -1)
	wantFormed(t, "4097 elements", dict.Formed(flat[:4097]), 4096)
	wantFormed(t, "5000 elements", dict.Formed(flat), 4096)
	wantFormed(t, "4096 nodes", dict.Formed(items[:4096]), -1)
	wantFormed(t, "4095 nodes", dict.Formed(items[:4095]), 4095)
	items[0].N = 4096
	wantFormed(t, "4096 nodes of 4097", dict.Formed(items[:4096]), 4096)
	wantFormed(t, "4097 nodes", dict.Formed(items[:4097]), 4096)
	flat[17].N = 1
	wantFormed(t, "an earlier fault", dict.Formed(flat), 17)
}

// shape reads a list by the document's words: elements of a level, each with its items. Its answer is the place behind them and whether a node was wrong there, or missing.
type shape struct {
	nodes []api.Node
	known map[api.Tag]api.DictEntry
	infos map[api.VR]api.VRInfo
}

// elements reads count of them (below 0: as many as there are); the answer's second is false where the place is a fault's.
func (s shape) elements(i, count, depth int) (int, bool) {
	last, has := api.Tag(0), false
	for n := 0; n != count; n++ {
		if i == len(s.nodes) {
			return i, count < 0
		}
		e := s.nodes[i]
		if i >= 4096 || !s.element(e) || has && e.Tag <= last {
			return i, false
		}
		last, has = e.Tag, true
		i++
		if e.VR != 18 {
			continue
		}
		var ok bool
		if i, ok = s.items(i, e.N, depth+1); !ok {
			return i, false
		}
	}
	return i, true
}

func (s shape) items(i, count, depth int) (int, bool) {
	for range count {
		if i == len(s.nodes) {
			return i, false
		}
		n := s.nodes[i]
		if i >= 4096 || n.Tag != 0xFFFEE000 || n.VR != 29 || n.Value != "" || n.N < 0 || depth > 4 {
			return i, false
		}
		var ok bool
		if i, ok = s.elements(i+1, n.N, depth); !ok {
			return i, false
		}
	}
	return i, true
}

func (s shape) element(n api.Node) bool {
	g := n.Tag / 65536
	info, isVR := s.infos[n.VR]
	entry, known := s.known[n.Tag]
	if g == 0 || g == 2 || g == 0xFFFE || g == 0xFFFF || n.Tag%65536 == 0 || !isVR || known && entry.VR != n.VR {
		return false
	}
	if n.VR == 18 {
		return n.Value == "" && n.N >= 0
	}
	if n.N != 0 || len(n.Value) > 65534 {
		return false
	}
	if info.Text {
		return strings.TrimRight(n.Value, " \x00") == n.Value
	}
	return len(n.Value)%2 == 0
}

// grow makes a data set at random, most often a well-formed one.
func grow(random *rand.Rand, depth int) []api.Node {
	var nodes []api.Node
	tag := api.Tag(0x00090001)
	for range random.Intn(4) {
		tag += api.Tag(1 + random.Intn(3)*0x8000)
		switch {
		case random.Intn(3) > 0 || depth > 4:
			value := []string{"", "ab", "abcd"}[random.Intn(3)]
			nodes = append(nodes, element(tag, []api.VR{api.VRUN, api.VRLO, api.VRUI, api.VRUS}[random.Intn(4)], value))
		default:
			items := random.Intn(3)
			nodes = append(nodes, sequence(tag, items))
			for range items {
				inner := grow(random, depth+1)
				nodes = append(nodes, item(tops(inner)))
				nodes = append(nodes, inner...)
			}
		}
		if _, known := dict.Find(tag); known || tag&0xFFFF == 0 {
			tag++
			nodes = nodes[:0]
		}
	}
	return nodes
}

// tops counts the nodes of a list's top level.
func tops(nodes []api.Node) int {
	n := 0
	for i := 0; i < len(nodes); n++ {
		i = after(nodes, i)
	}
	return n
}

// spoil changes a list at random.
func spoil(random *rand.Rand, nodes []api.Node) []api.Node {
	nodes = slices.Clone(nodes)
	for range random.Intn(3) {
		if len(nodes) == 0 {
			return nodes
		}
		i := random.Intn(len(nodes))
		n := &nodes[i]
		switch random.Intn(7) {
		case 0:
			n.N += random.Intn(5) - 2
		case 1:
			n.VR = api.VR(random.Intn(31))
		case 2:
			n.Tag = []api.Tag{0, 0x00020010, codeTag, stepsTag, api.TagItem, 0xFFFEE00D, 0xFFFF0010, 0x00190000, n.Tag + 1, n.Tag - 1}[random.Intn(10)]
		case 3:
			n.Value += []string{" ", "\x00", "x", "xy"}[random.Intn(4)]
		case 4:
			nodes = slices.Delete(nodes, i, i+1)
		case 5:
			nodes = slices.Insert(nodes, i, nodes[random.Intn(len(nodes))])
		case 6:
			nodes = nodes[:i]
		}
	}
	return nodes
}

func TestFormedRandom(t *testing.T) {
	random := rand.New(rand.NewSource(10))
	known, infos := knownTags(t), documentInfos(t)
	right, wrong := 0, 0
	for range 60000 {
		nodes := spoil(random, grow(random, 1))
		at, ok := shape{nodes, known, infos}.elements(0, -1, 0)
		if ok {
			at = -1
			right++
		} else {
			wrong++
		}
		wantFormed(t, fmt.Sprint(nodes), dict.Formed(nodes), at)
	}
	if right < 10000 || wrong < 10000 {
		t.Errorf("%d lists were right, %d wrong", right, wrong)
	}
}
