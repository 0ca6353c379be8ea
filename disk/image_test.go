package disk_test

import (
	"math"
	"testing"

	"modality/api"
	"modality/disk"
)

// busy is a disk with files of every kind: held, changed, without a name.
func busy(t *testing.T) *disk.Disk {
	d := fresh(t, 20, 4)
	ok(t, d.Create("b"), d.Create("a"), d.Create("z"), d.Append("a", []byte("hello")), d.Sync("a"), d.SyncDir())
	ok(t, d.Append("a", []byte("xy")), d.Append("a", []byte("z")), d.Truncate("a", 1), d.Append("b", []byte("bb")))
	ok(t, d.Create("c"), d.Rename("a", "b"), d.Remove("z"))
	d.Quota(7)
	d.Fuse(5)
	return d
}

// busyImage is the image of busy.
func busyImage() api.DiskImage {
	return api.DiskImage{
		Config: api.DiskConfig{Blocks: 7, Names: 4},
		Nodes: []api.DiskNode{
			{Id: 1, Changes: []api.DiskChange{{Data: []byte("bb")}}},
			{Id: 2, Held: []byte("hello"), Changes: []api.DiskChange{{Data: []byte("xy")}, {Data: []byte("z")}, {Cut: true, Len: 1}}},
			{Id: 3},
			{Id: 4},
		},
		Dir: []api.DiskLink{{Name: "a", Id: 2}, {Name: "b", Id: 1}, {Name: "z", Id: 3}},
		Turns: []api.DiskTurn{
			{Kind: api.TurnLink, Name: "c", Id: 4},
			{Kind: api.TurnMove, Name: "a", To: "b"},
			{Kind: api.TurnUnlink, Name: "z"},
		},
		Next: 5,
		Left: 5,
	}
}

func TestImage(t *testing.T) { // P1.2
	sameImage(t, "image", busy(t).Image(), busyImage())
}

func TestLoad(t *testing.T) { // P1.2
	d := load(t, busyImage())
	sameImage(t, "loaded", d.Image(), busyImage())
	used(t, d, 4)
	lists(t, d, row{"b", 1}, row{"c", 0})
	reads(t, d, "b", "h")
	ok(t, d.Create("d"))
	if img := d.Image(); img.Next != 6 || img.Left != 4 || img.Nodes[4].Id != 5 {
		t.Fatal(img)
	}
}

func TestLoadEdges(t *testing.T) { // P1.2
	img := busyImage()
	img.Config.Blocks = 0
	used(t, load(t, img), 4) // more than the quota
	img.Config.Blocks = api.MaxBlocks
	img.Next = api.MaxNodeNum + 1
	sameImage(t, "the last number was given", load(t, img).Image(), img)
	for _, left := range []int{-1, -2, math.MinInt} {
		img.Left = left
		if got := load(t, img).Image().Left; got != -1 {
			t.Fatal(left, got)
		}
	}
	img.Left = 0
	d := load(t, img)
	is(t, "without power", d.SyncDir(), api.ErrDiskOff)
	img.Left = math.MaxInt
	sameImage(t, "power for long", load(t, img).Image(), img)
}

func TestLoadTakesEmptyAsNil(t *testing.T) { // DOC.md: nil and empty mean the same where they come in, an answer's is nil
	img := api.DiskImage{
		Config: api.DiskConfig{Blocks: 1, Names: 1},
		Nodes:  []api.DiskNode{{Id: 1, Held: []byte{}, Changes: []api.DiskChange{}}},
		Dir:    []api.DiskLink{{Name: "a", Id: 1}},
		Turns:  []api.DiskTurn{},
		Next:   2,
		Left:   -1,
	}
	got := load(t, img).Image()
	if got.Nodes[0].Held != nil || got.Nodes[0].Changes != nil || got.Turns != nil {
		t.Fatalf("%#v", got)
	}
	img.Nodes, img.Dir = []api.DiskNode{}, []api.DiskLink{}
	got = load(t, img).Image()
	if got.Nodes != nil || got.Dir != nil || got.Turns != nil {
		t.Fatalf("%#v", got)
	}
	img = busyImage()
	img.Nodes[1].Changes[2].Data = []byte{}
	sameImage(t, "a cut with empty data", load(t, img).Image(), busyImage())
}

// spoilt is a way to make busyImage one that Load refuses at that place; the image has 4 nodes.
type spoilt struct {
	what  string
	at    int
	spoil func(img *api.DiskImage)
}

func refuses(t *testing.T, list []spoilt, reason api.Errno) {
	t.Helper()
	for _, s := range list {
		img := busyImage()
		s.spoil(&img)
		d, err := disk.Load(img)
		faulty(t, s.what, d, err, s.at, reason)
	}
}

func TestLoadRefusesConfig(t *testing.T) { // P1.2, 1
	refuses(t, []spoilt{
		{"blocks below 0", 0, func(img *api.DiskImage) { img.Config.Blocks = -1 }},
		{"too many blocks", 0, func(img *api.DiskImage) { img.Config.Blocks = api.MaxBlocks + 1 }},
		{"no names", 1, func(img *api.DiskImage) { img.Config.Names = 0 }},
		{"too many names", 1, func(img *api.DiskImage) { img.Config.Names = api.MaxNames + 1 }},
	}, api.ErrDiskConfig)
}

func TestLoadRefusesNext(t *testing.T) { // P1.2, 2
	refuses(t, []spoilt{
		{"next 0", 2, func(img *api.DiskImage) { img.Next = 0 }},
		{"next too great", 2, func(img *api.DiskImage) { img.Next = api.MaxNodeNum + 2 }},
		{"next huge", 2, func(img *api.DiskImage) { img.Next = math.MaxUint64 }},
	}, api.ErrDiskImage)
}

func TestLoadRefusesNodes(t *testing.T) { // P1.2, 3
	refuses(t, []spoilt{
		{"number 0", 3, func(img *api.DiskImage) { img.Nodes[0].Id = 0 }},
		{"number next", 6, func(img *api.DiskImage) { img.Nodes[3].Id = 5 }},
		{"number above next", 6, func(img *api.DiskImage) { img.Nodes[3].Id = 6 }},
		{"next too small", 5, func(img *api.DiskImage) { img.Next = 3 }},
		{"number again", 4, func(img *api.DiskImage) { img.Nodes[1].Id = 1 }},
		{"number falls", 5, func(img *api.DiskImage) { img.Nodes[2].Id = 1 }},
		{"a cut with data", 4, func(img *api.DiskImage) { img.Nodes[1].Changes[2].Data = []byte("x") }},
		{"a cut below 0", 4, func(img *api.DiskImage) { img.Nodes[1].Changes[2].Len = -1 }},
		{"a cut to the length", 4, func(img *api.DiskImage) { img.Nodes[1].Changes[2].Len = 8 }},
		{"a cut beyond", 4, func(img *api.DiskImage) { img.Nodes[1].Changes[2].Len = math.MaxInt }},
		{"a cut of nothing", 5, func(img *api.DiskImage) { img.Nodes[2].Changes = []api.DiskChange{{Cut: true}} }},
		{"a cut behind a cut", 4, func(img *api.DiskImage) {
			img.Nodes[1].Changes = append(img.Nodes[1].Changes, api.DiskChange{Cut: true, Len: 1})
		}},
		{"an append with a length", 3, func(img *api.DiskImage) { img.Nodes[0].Changes[0].Len = 1 }},
		{"an append below 0", 3, func(img *api.DiskImage) { img.Nodes[0].Changes[0].Len = -1 }},
		{"an append of nothing", 3, func(img *api.DiskImage) { img.Nodes[0].Changes[0].Data = nil }},
		{"an append of empty data", 3, func(img *api.DiskImage) { img.Nodes[0].Changes[0].Data = []byte{} }},
		{"the first of two", 3, func(img *api.DiskImage) { img.Nodes[0].Changes[0].Len = 1; img.Nodes[1].Id = 0 }},
	}, api.ErrDiskImage)
}

func TestLoadRefusesNames(t *testing.T) { // P1.2, 4
	refuses(t, []spoilt{
		{"more names than may be", 7, func(img *api.DiskImage) { img.Config.Names = 2 }},
		{"no name", 7, func(img *api.DiskImage) { img.Dir[0].Name = "" }},
		{"a name of great letters", 7, func(img *api.DiskImage) { img.Dir[0].Name = "A" }},
		{"a name that is too long", 7, func(img *api.DiskImage) { img.Dir[0].Name = "aaaaaaaaaaaaaaaaa" }},
		{"a name again", 7, func(img *api.DiskImage) { img.Dir[1].Name = "a" }},
		{"names fall", 7, func(img *api.DiskImage) { img.Dir[0], img.Dir[1] = img.Dir[1], img.Dir[0] }},
		{"a name of no file", 7, func(img *api.DiskImage) { img.Dir[1].Id = 9 }},
		{"a name of number 0", 7, func(img *api.DiskImage) { img.Dir[1].Id = 0 }},
		{"two names of one file", 7, func(img *api.DiskImage) { img.Dir[1].Id = 2 }},
	}, api.ErrDiskImage)
}

func TestLoadRefusesTurns(t *testing.T) { // P1.2, 5
	refuses(t, []spoilt{
		{"kind 0", 8, func(img *api.DiskImage) { img.Turns[0].Kind = 0 }},
		{"kind 4", 8, func(img *api.DiskImage) { img.Turns[1].Kind = 4 }},
		{"kind below 0", 8, func(img *api.DiskImage) { img.Turns[2].Kind = -1 }},
		{"link of no name", 8, func(img *api.DiskImage) { img.Turns[0].Name = "C" }},
		{"link of a name that is there", 8, func(img *api.DiskImage) { img.Turns[0].Name = "z"; img.Config.Names = 5 }},
		{"link to", 8, func(img *api.DiskImage) { img.Turns[0].To = "d" }},
		{"link of no file", 8, func(img *api.DiskImage) { img.Turns[0].Id = 9 }},
		{"link of number 0", 8, func(img *api.DiskImage) { img.Turns[0].Id = 0 }},
		{"link of a file with a name", 8, func(img *api.DiskImage) { img.Turns[0].Id = 2 }},
		{"link of a file that had a name in Dir", 8, func(img *api.DiskImage) {
			img.Turns = append(img.Turns, api.DiskTurn{Kind: api.TurnLink, Name: "q", Id: 3})
		}},
		{"link of a file that another took the name of", 8, func(img *api.DiskImage) {
			img.Turns = append(img.Turns, api.DiskTurn{Kind: api.TurnLink, Name: "q", Id: 1})
		}},
		{"link of a file that had a name by a turn", 8, func(img *api.DiskImage) {
			img.Turns = append(img.Turns, api.DiskTurn{Kind: api.TurnUnlink, Name: "c"}, api.DiskTurn{Kind: api.TurnLink, Name: "q", Id: 4})
		}},
		{"link with which there are too many names", 8, func(img *api.DiskImage) { img.Config.Names = 3 }},
		{"unlink of a name that is not there", 8, func(img *api.DiskImage) { img.Turns[2].Name = "q" }},
		{"unlink of a name that was moved", 8, func(img *api.DiskImage) { img.Turns[2].Name = "a" }},
		{"unlink to", 8, func(img *api.DiskImage) { img.Turns[2].To = "q" }},
		{"unlink with a number", 8, func(img *api.DiskImage) { img.Turns[2].Id = 3 }},
		{"move of a name that is not there", 8, func(img *api.DiskImage) { img.Turns[1].Name = "q" }},
		{"move to no name", 8, func(img *api.DiskImage) { img.Turns[1].To = "B" }},
		{"move to nothing", 8, func(img *api.DiskImage) { img.Turns[1].To = "" }},
		{"move onto itself", 8, func(img *api.DiskImage) { img.Turns[1].To = "a" }},
		{"move with a number", 8, func(img *api.DiskImage) { img.Turns[1].Id = 2 }},
	}, api.ErrDiskImage)
}

func TestLoadRefusesFilesWithoutName(t *testing.T) { // P1.2, 6
	refuses(t, []spoilt{
		{"the last", 9, func(img *api.DiskImage) { img.Turns = img.Turns[1:] }},
		{"one in the middle", 9, func(img *api.DiskImage) { img.Dir = img.Dir[:2]; img.Turns = img.Turns[:2] }},
	}, api.ErrDiskImage)
}

func TestLoadRefusesByTheFirstReason(t *testing.T) { // P1.2
	img := busyImage()
	for _, s := range []spoilt{
		{"a file without any name", 10, func(img *api.DiskImage) { img.Nodes = append(img.Nodes, api.DiskNode{Id: 5}); img.Next = 6 }},
		{"a turn", 9, func(img *api.DiskImage) { img.Turns[2].Kind = 9 }},
		{"a name", 8, func(img *api.DiskImage) { img.Dir[2].Name = "Z" }},
		{"the last node", 7, func(img *api.DiskImage) { img.Nodes[4].Id = 3 }},
		{"a node", 4, func(img *api.DiskImage) { img.Nodes[1].Id = 0 }},
		{"next", 2, func(img *api.DiskImage) { img.Next = 0 }},
	} {
		s.spoil(&img)
		d, err := disk.Load(img)
		faulty(t, s.what, d, err, s.at, api.ErrDiskImage)
	}
	img.Config.Names = 0
	d, err := disk.Load(img)
	faulty(t, "names", d, err, 1, api.ErrDiskConfig)
	img.Config.Blocks = -1
	d, err = disk.Load(img)
	faulty(t, "blocks", d, err, 0, api.ErrDiskConfig)
}

// Links need not rise by number: the document refuses them for nothing of that kind.
func TestLoadTakesLinksInAnyOrder(t *testing.T) { // P1.2, 5
	img := api.DiskImage{
		Config: api.DiskConfig{Blocks: 9, Names: 2},
		Nodes:  []api.DiskNode{{Id: 3}, {Id: 7}},
		Turns:  []api.DiskTurn{{Kind: api.TurnLink, Name: "a", Id: 7}, {Kind: api.TurnLink, Name: "b", Id: 3}},
		Next:   8,
		Left:   -1,
	}
	sameImage(t, "loaded", load(t, img).Image(), img)
}
